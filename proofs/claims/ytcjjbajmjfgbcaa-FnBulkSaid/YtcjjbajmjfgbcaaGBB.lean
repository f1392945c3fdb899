import Derived.Test.YtcjjbajmjfgbcaaGBA
namespace Go.Proofs.Ytcjjbajmjfgbcaa
open Go.RowKit
set_option linter.unusedVariables false
set_option linter.unusedSimpArgs false
set_option maxRecDepth 100000
structure Soft (t : T) (lo hi : Nat) : Prop where
 page : t.page = 0
 size : lo ≤ t.size ∧ t.size ≤ hi
 leaf : t.leaf = true → t.vals.length = t.keys.length ∧ t.over.length = t.keys.length ∧ (∀ x ∈ t.vals.zip t.over, standB 0 x.1 x.2 = true) ∧ t.kids = []
 kids : ∀ k ∈ t.kids, k.good false = true ∧ Shape k
theorem good_parts {t : T} {r : Bool} (h : t.good r = true) : ((if r && t.leaf then 0 else 2) ≤ t.size ∧ t.size ≤ 4) ∧ (t.leaf = true → t.vals.length = t.keys.length ∧ t.over.length = t.keys.length ∧ ∀ x ∈ t.vals.zip t.over, standB t.page x.1 x.2 = true) ∧ ∀ k ∈ t.kids, k.good false = true := by
 have h0 := h
 rw [T.good_eq] at h
 simp only [Bool.and_eq_true, decide_eq_true_eq] at h
 refine ⟨by simpa using h.1.1.1.1, fun hl => ?_, fun k hk => goodG_kid h0 hk⟩
 have h2 := h.1.1.2
 rw [hl] at h2
 simp only [Bool.not_true, Bool.false_or, Bool.and_eq_true, decide_eq_true_eq, List.all_eq_true] at h2
 exact ⟨h2.1.1, h2.1.2, h2.2⟩
theorem Soft.good {t : T} {lo hi : Nat} (h : Soft t lo hi) (r : Bool) (hlo : (if r && t.leaf then 0 else 2) ≤ t.size) (hhi : t.size ≤ 4) : t.good r = true := by
 rw [T.good_eq]
 have hp := h.page
 simp only [Bool.and_eq_true, decide_eq_true_eq]
 refine ⟨⟨⟨⟨⟨by simpa using hlo, hhi⟩, by simp [hp]⟩, ?_⟩, ?_⟩, ?_⟩
 ·cases hl : t.leaf
  ·rfl
  ·obtain ⟨h1, h2, h3, _⟩ := h.leaf hl
   simp only [Bool.not_true, Bool.false_or, Bool.and_eq_true, decide_eq_true_eq, List.all_eq_true]
   exact ⟨⟨h1, h2⟩, fun x hx => by rw [hp]; exact h3 x hx⟩
 ·rw [List.all_eq_true]
  intro x hx
  obtain ⟨k, hk, rfl⟩ := List.mem_map.1 hx
  exact (h.kids k hk).1
 ·rw [List.all_eq_true]
  intro k hk
  simp [hp]
theorem Soft.shape {t : T} {lo hi : Nat} (h : Soft t lo hi) : Shape t := by
 rw [shape_eq]
 exact ⟨fun hl => (h.leaf hl).2.2.2, fun k hk => (h.kids k hk).2⟩
theorem stand_soft {p : Int} {v : ByteArray} {o : Int} (h : standB p v o = true) : standB 0 v o = true := by
 unfold standB at h ⊢
 simp only [Bool.and_eq_true] at h ⊢
 exact ⟨h.1, by simp⟩
theorem zip_map2 : ∀ (zs : List (ByteArray × ByteArray × Int)), (zs.map (fun s => s.2.1)).zip (zs.map (fun s => s.2.2)) = zs.map (fun s => s.2)
 | [] => rfl
 | s :: r => by simp [zip_map2 r]
theorem leafZ_soft {zs : List (ByteArray × ByteArray × Int)} {lo hi : Nat} (h : lo ≤ zs.length ∧ zs.length ≤ hi) (hz : ∀ s ∈ zs, standB 0 s.2.1 s.2.2 = true) : Soft (leafZ zs) lo hi := by
 refine ⟨rfl, by simpa [leafZ, T.size] using h, fun _ => ⟨by simp [leafZ], by simp [leafZ], fun x hx => ?_, rfl⟩, fun k hk => by simp [leafZ] at hk⟩
 have e : (leafZ zs).vals.zip (leafZ zs).over = zs.map (fun s => s.2) := zip_map2 zs
 rw [e] at hx
 obtain ⟨s, hs, rfl⟩ := List.mem_map.1 hx
 exact hz s hs
theorem zip_mem {a : List ByteArray} {b : List ByteArray} {c : List Int} {s : ByteArray × ByteArray × Int} (h : s ∈ a.zip (b.zip c)) : s.2 ∈ b.zip c := by
 obtain ⟨s1, s2⟩ := s
 exact (List.of_mem_zip h).2
theorem soft_cut {t : T} {lo : Nat} (h : Soft t lo 5) (hlo : lo ≤ 2) : ∀ x ∈ cutT t, Soft x lo 4 := by
 intro x hx
 unfold cutT at hx
 split at hx
 ·rename_i h4
  simp at hx
  subst hx
  exact ⟨h.page, ⟨h.size.1, h4⟩, h.leaf, h.kids⟩
 ·rename_i h4
  have h5 : t.size = 5 := by have := h.size.2; omega
  simp only [List.mem_cons, List.not_mem_nil, or_false] at hx
  cases hl : t.leaf
  ·have hk5 : t.kids.length = 5 := by simpa [T.size, hl] using h5
   rcases hx with rfl | rfl
   ·exact ⟨rfl, by simp [T.size, T.fore, hl, hk5]; omega, fun e => by simp [T.fore, hl] at e, fun k hk => h.kids k (List.mem_of_mem_take hk)⟩
   ·exact ⟨rfl, by simp [T.size, T.rest, hl, hk5]; omega, fun e => by simp [T.rest, hl] at e, fun k hk => h.kids k (List.mem_of_mem_drop hk)⟩
  ·have hk5 : t.keys.length = 5 := by simpa [T.size, hl] using h5
   obtain ⟨e1, e2, e3, e4⟩ := h.leaf hl
   rcases hx with rfl | rfl
   ·refine ⟨rfl, by simp [T.size, T.fore, hl, hk5]; omega, fun _ => ⟨by simp [T.fore, e1], by simp [T.fore, e2], fun x hx => e3 x ?_, by simp [T.fore, e4]⟩, fun k hk => h.kids k (List.mem_of_mem_take hk)⟩
    simp only [T.fore, List.zip, ← List.take_zipWith] at hx
    exact List.mem_of_mem_take hx
   ·refine ⟨rfl, by simp [T.size, T.rest, hl, hk5]; omega, fun _ => ⟨by simp [T.rest, e1], by simp [T.rest, e2], fun x hx => e3 x ?_, by simp [T.rest, e4]⟩, fun k hk => h.kids k (List.mem_of_mem_drop hk)⟩
    simp only [T.rest, List.zip, ← List.drop_zipWith] at hx
    exact List.mem_of_mem_drop hx
theorem cut_len (t : T) : 1 ≤ (cutT t).length ∧ (cutT t).length ≤ 2 := by
 unfold cutT
 split <;> simp
theorem soft_put (key val : ByteArray) (hv : val.size ≤ 400) : ∀ (t : T) (r : Bool), t.good r = true → Shape t → Soft (putT key val t) (if r && t.leaf then 0 else 2) 5 := by
 intro t
 induction t using T.ind with
 | h t ih =>
  intro r hg hs
  rw [shape_eq] at hs
  obtain ⟨hsz, hlf, hkd⟩ := good_parts hg
  cases hl : t.leaf
  ·have hsk : t.size = t.kids.length := by simp [T.size, hl]
   have h0 : 0 < t.kids.length := by simp [hl] at hsz; omega
   obtain ⟨k, hk, hkm⟩ := tow_kid (key := key) (ys := t.kids) h0
   rw [putT_inner hl hk]
   have hsf := ih k hkm false (hkd k hkm) (hs.2 k hkm)
   simp only [Bool.false_and, Bool.false_eq_true, if_false] at hsf
   have hm := tow_lt (key := key) t.kids h0
   have hcl := cut_len (putT key val k)
   refine ⟨rfl, ?_, fun e => by simp at e, fun x hx => ?_⟩
   ·simp [T.size, hl] at hsz ⊢
    omega
   ·rcases List.mem_append.1 hx with hx | hx
    ·rcases List.mem_append.1 hx with hx | hx
     ·exact ⟨hkd x (List.mem_of_mem_take hx), hs.2 x (List.mem_of_mem_take hx)⟩
     ·have := soft_cut hsf (Nat.le_refl _) x hx
      exact ⟨this.good false (by simpa using this.size.1) this.size.2, this.shape⟩
    ·exact ⟨hkd x (List.mem_of_mem_drop hx), hs.2 x (List.mem_of_mem_drop hx)⟩
  ·rw [putT_leaf hl]
   obtain ⟨e1, e2, e3⟩ := hlf hl
   have hzl : (t.keys.zip (t.vals.zip t.over)).length = t.keys.length := by simp [e1, e2]
   have hsk : t.size = t.keys.length := by simp [T.size, hl]
   refine leafZ_soft ?_ (fun s hs2 => ?_)
   ·rw [putZ_len, hzl]
    rw [hl] at hsz
    generalize (if (r && true) = true then 0 else 2) = lo at *
    split <;> omega
   ·rcases putZ_mem hs2 with rfl | hm
    ·unfold standB
     simp [hv]
    ·exact stand_soft (e3 _ (zip_mem hm))
theorem put_size {key val : ByteArray} (hv : val.size ≤ 400) {k : T} (hg : k.good false = true) (hs : Shape k) : (putT key val k).size ≤ 5 := (soft_put key val hv k false hg hs).size.2
theorem putOk_all (key val : ByteArray) (hv : val.size ≤ 400) : ∀ (t : T) (r : Bool), t.nodes ≤ 100000 → t.good r = true → 0 ≤ t.ht → Shape t → SortT t.slots → PutOk key val t := by
 intro t
 induction t using T.ind with
 | h t ih =>
  intro r hn hg hh hs hso w P ty v hG hP
  have hs0 := hs
  rw [shape_eq] at hs
  obtain ⟨hsz, hlf, hkd⟩ := good_parts hg
  cases hl : t.leaf
  ·obtain ⟨L, a, n, c, ul, Q, e, q⟩ := hG.inner hl
   cases e
   have hsk : t.size = n := by rw [q.len]; simp [T.size, hl]
   have h0 : 2 ≤ n ∧ n ≤ 4 := by simp [hl] at hsz; omega
   obtain ⟨k0, r0, hk0⟩ : ∃ k ks, t.kids = k :: ks := List.exists_cons_of_ne_nil (by intro e; have := q.len; rw [e] at this; simp at this; omega)
   obtain ⟨f1, f2⟩ := ht_first hl hk0 hh
   refine ⟨fun w => by kernel_rfl, 97, .pointer (some ⟨L, 0, none⟩), fun w => by kernel_rfl, fun x w => by kernel_rfl, ?_⟩
   exact innerPut_any q hl (by omega) h0.2 hP key val (fun k hk => ⟨by have := nodesG_kid hk; omega, hkd k hk, (f2 k hk).1⟩) (fun k hk => put_size hv (hkd k hk) (hs.2 k hk)) (fun k hk ⟨i, hi, hki⟩ => ih k hk false (by have := nodesG_kid hk; omega) (hkd k hk) (f2 k hk).1 (hs.2 k hk) (look_toward hl ⟨r, hg⟩ hso hi hki).2)
  ·obtain ⟨L, a, n, c, e, q⟩ := hG.leaf hl
   cases e
   have hsk : t.size = n := by rw [q.len]; simp [T.size, hl]
   have hsl : t.slots = t.keys.zip (t.vals.zip t.over) := by rw [T.slots_eq, if_pos hl, hs.1 hl]; simp
   rw [hsl] at hso
   refine ⟨fun w => by kernel_rfl, 77, .pointer (some ⟨L, 0, none⟩), fun w => by kernel_rfl, fun x w => by kernel_rfl, ?_⟩
   rw [putT_leaf hl]
   exact leafPut_any q hso (by omega) hP key val
theorem cut_nodes (t : T) : ((cutT t).map T.nodes).sum ≤ t.nodes + 1 := by
 unfold cutT
 split
 ·simp
 ·simp only [List.map_cons, List.map_nil, List.sum_cons, List.sum_nil, T.nodes_eq]
  have e : (t.kids.map T.nodes).sum = ((t.kids.take 3).map T.nodes).sum + ((t.kids.drop 3).map T.nodes).sum := by
   rw [← List.sum_append, ← List.map_append, List.take_append_drop]
  simp only [T.fore, T.rest]
  omega
theorem put_nodes (key val : ByteArray) : ∀ (t : T) (r : Bool), t.good r = true → Shape t → (putT key val t).nodes + 1 ≤ 2 * t.nodes := by
 intro t
 induction t using T.ind with
 | h t ih =>
  intro r hg hs
  rw [shape_eq] at hs
  obtain ⟨hsz, hlf, hkd⟩ := good_parts hg
  cases hl : t.leaf
  ·have h0 : 0 < t.kids.length := by simp [hl, T.size] at hsz; omega
   obtain ⟨k, hk, hkm⟩ := tow_kid (key := key) (ys := t.kids) h0
   rw [putT_inner hl hk, T.nodes_eq, T.nodes_eq t]
   have h1 := ih k hkm false (hkd k hkm) (hs.2 k hkm)
   have h2 := cut_nodes (putT key val k)
   have hm := tow_lt (key := key) t.kids h0
   generalize towN key t.kids = m at *
   have e : (t.kids.map T.nodes).sum = ((t.kids.take m).map T.nodes).sum + k.nodes + ((t.kids.drop (m + 1)).map T.nodes).sum := by
    have e1 : t.kids = t.kids.take m ++ (k :: t.kids.drop (m + 1)) := by
     have e2 : t.kids.drop m = k :: t.kids.drop (m + 1) := by
      rw [List.drop_eq_getElem_cons hm]
      congr 1
      rw [List.getElem?_eq_getElem hm] at hk
      simpa using hk
     rw [← e2, List.take_append_drop]
    have e3 := congrArg (fun l => (l.map T.nodes).sum) e1
    simp only [List.map_append, List.map_cons, List.sum_append, List.sum_cons] at e3
    omega
   simp only [List.map_append, List.sum_append]
   omega
  ·rw [putT_leaf hl]
   have : (leafZ (putZ key val (t.keys.zip (t.vals.zip t.over)))).nodes = 1 := by rw [T.nodes_eq]; rfl
   rw [this, T.nodes_eq t]
   omega
theorem slots_mem {t : T} {s : ByteArray × ByteArray × Int} (h : s ∈ t.slots) : (t.leaf = true ∧ s ∈ t.keys.zip (t.vals.zip t.over)) ∨ ∃ k ∈ t.kids, s ∈ k.slots := by
 rw [T.slots_eq] at h
 rcases List.mem_append.1 h with h | h
 ·split at h
  ·rename_i hl; exact .inl ⟨hl, h⟩
  ·cases h
 ·obtain ⟨l, hl, hs⟩ := List.mem_flatten.1 h
  obtain ⟨k, hk, rfl⟩ := List.mem_map.1 hl
  exact .inr ⟨k, hk, hs⟩
theorem kid_slots {t k : T} {s : ByteArray × ByteArray × Int} (hk : k ∈ t.kids) (hs : s ∈ k.slots) : s ∈ t.slots := by
 rw [T.slots_eq]
 exact List.mem_append_right _ (List.mem_flatten.2 ⟨k.slots, List.mem_map.2 ⟨k, hk, rfl⟩, hs⟩)
theorem leaf_slots {t : T} {s : ByteArray × ByteArray × Int} (hl : t.leaf = true) (hs : s ∈ t.keys.zip (t.vals.zip t.over)) : s ∈ t.slots := by
 rw [T.slots_eq, if_pos hl]
 exact List.mem_append_left _ hs
theorem cut_slots {t x : T} {s : ByteArray × ByteArray × Int} (hx : x ∈ cutT t) (hs : s ∈ x.slots) : s ∈ t.slots := by
 unfold cutT at hx
 split at hx
 ·simp at hx; subst hx; exact hs
 ·simp only [List.mem_cons, List.not_mem_nil, or_false] at hx
  rcases hx with rfl | rfl
  ·rcases slots_mem hs with ⟨hl, h⟩ | ⟨k, hk, h⟩
   ·simp only [T.fore] at h hl
    rw [zip_take3] at h
    exact leaf_slots hl (List.mem_of_mem_take h)
   ·exact kid_slots (List.mem_of_mem_take hk) h
  ·rcases slots_mem hs with ⟨hl, h⟩ | ⟨k, hk, h⟩
   ·simp only [T.rest] at h hl
    rw [zip_drop3] at h
    exact leaf_slots hl (List.mem_of_mem_drop h)
   ·exact kid_slots (List.mem_of_mem_drop hk) h
theorem put_slots (key val : ByteArray) : ∀ (t : T), (t.leaf = false → 0 < t.kids.length) → (∀ k ∈ t.kids, k.good false = true) → ∀ s ∈ (putT key val t).slots, s = (key, val, 0) ∨ s ∈ t.slots := by
 intro t
 induction t using T.ind with
 | h t ih =>
  intro h0 hg s hs
  cases hl : t.leaf
  ·obtain ⟨k, hk, hkm⟩ := tow_kid (key := key) (ys := t.kids) (h0 hl)
   rw [putT_inner hl hk] at hs
   rcases slots_mem hs with ⟨e, _⟩ | ⟨x, hx, hsx⟩
   ·simp at e
   ·rcases List.mem_append.1 hx with hx | hx
    ·rcases List.mem_append.1 hx with hx | hx
     ·exact .inr (kid_slots (List.mem_of_mem_take hx) hsx)
     ·have h2 := good_parts (hg k hkm)
      rcases ih k hkm (fun e => by simp [T.size, e] at h2; omega) h2.2.2 s (cut_slots hx hsx) with e | e
      ·exact .inl e
      ·exact .inr (kid_slots hkm e)
    ·exact .inr (kid_slots (List.mem_of_mem_drop hx) hsx)
  ·rw [putT_leaf hl] at hs
   rcases slots_mem hs with ⟨_, h⟩ | ⟨x, hx, _⟩
   ·rw [leafZ_zip] at h
    rcases putZ_mem h with e | e
    ·exact .inl e
    ·exact .inr (leaf_slots hl e)
   ·simp [leafZ] at hx
theorem good_whole : ∀ (t : T) (r : Bool), t.good r = true → Shape t → t.whole = true := by
 intro t
 induction t using T.ind with
 | h t ih =>
  intro r hg hs
  rw [shape_eq] at hs
  obtain ⟨hsz, hlf, hkd⟩ := good_parts hg
  rw [T.whole_eq]
  simp only [Bool.and_eq_true]
  refine ⟨⟨?_, ?_⟩, ?_⟩
  ·cases hl : t.leaf
   ·rfl
   ·obtain ⟨e1, e2, _⟩ := hlf hl
    have hsk : t.size = t.keys.length := by simp [T.size, hl]
    simp only [Bool.not_true, Bool.false_or, Bool.and_eq_true, decide_eq_true_eq]
    exact ⟨⟨⟨e1, e2⟩, by omega⟩, by simp [hs.1 hl]⟩
  ·cases hl : t.leaf
   ·have hsk : t.size = t.kids.length := by simp [T.size, hl]
    simp only [Bool.false_or, Bool.and_eq_true, List.all_eq_true, decide_eq_true_eq]
    refine ⟨?_, fun k hk => ?_⟩
    ·cases hk : t.kids with
     | nil => rw [hk] at hsk; simp [hl] at hsz hsk; omega
     | cons a b => rfl
    ·have := (good_parts (hkd k hk)).1; simp at this; omega
   ·rfl
  ·rw [List.all_eq_true]
   intro x hx
   obtain ⟨k, hk, rfl⟩ := List.mem_map.1 hx
   exact ih k hk false (hkd k hk) (hs.2 k hk)
theorem rootP_ok {key val : ByteArray} (hv : val.size ≤ 400) (hky : kyB key = true) {t : T} (hg : t.good true = true) (hs : Shape t) (hk : t.slots.all (fun s => kyB s.1) = true) : (rootP key val t).good true = true ∧ Shape (rootP key val t) ∧ (rootP key val t).whole = true ∧ (rootP key val t).nodes ≤ 2 * t.nodes + 1 ∧ (rootP key val t).slots.all (fun s => kyB s.1) = true := by
 have hsf := soft_put key val hv t true hg hs
 have hn := put_nodes key val t true hg hs
 have hp := good_parts hg
 have hks : ∀ s ∈ (putT key val t).slots, kyB s.1 = true := fun s hs2 => by
  rcases put_slots key val t (fun e => by simp [T.size, e] at hp; omega) hp.2.2 s hs2 with e | e
  ·rw [e]; exact hky
  ·exact (List.all_eq_true.1 hk) s e
 have key1 : (rootP key val t).good true = true ∧ Shape (rootP key val t) ∧ (rootP key val t).nodes ≤ 2 * t.nodes + 1 ∧ (rootP key val t).slots.all (fun s => kyB s.1) = true := by
  unfold rootP
  split
  ·rename_i h4
   have hlf : (putT key val t).leaf = t.leaf := by
    cases hl : t.leaf
    ·obtain ⟨k, hk2, _⟩ := tow_kid (key := key) (ys := t.kids) (by simp [T.size, hl] at hp; omega)
     rw [putT_inner hl hk2]
    ·rw [putT_leaf hl]; rfl
   exact ⟨hsf.good true (by rw [hlf]; simpa using hsf.size.1) h4, hsf.shape, by omega, List.all_eq_true.2 hks⟩
  ·rename_i h4
   have h2 : ∀ x ∈ cutT (putT key val t), x.good false = true ∧ Shape x := fun x hx => by
    have h5 : Soft (putT key val t) 2 5 := ⟨hsf.page, ⟨by omega, hsf.size.2⟩, hsf.leaf, hsf.kids⟩
    have := soft_cut h5 (Nat.le_refl _) x hx
    exact ⟨this.good false (by simpa using this.size.1) this.size.2, this.shape⟩
   have hcl : (cutT (putT key val t)).length = 2 := by unfold cutT; rw [if_neg h4]; rfl
   have hso : Soft ⟨false, 0, [], [], [], cutT (putT key val t)⟩ 2 4 := ⟨rfl, by simp [T.size, hcl], fun e => by simp at e, h2⟩
   refine ⟨hso.good true (by simp [T.size, hcl]) (by simp [T.size, hcl]), hso.shape, ?_, List.all_eq_true.2 (fun s hs2 => ?_)⟩
   ·rw [T.nodes_eq]
    have := cut_nodes (putT key val t)
    simp only
    omega
   ·rcases slots_mem hs2 with ⟨e, _⟩ | ⟨x, hx, hsx⟩
    ·simp at e
    ·exact hks s (cut_slots hx hsx)
 exact ⟨key1.1, key1.2.1, good_whole _ true key1.1 key1.2.1, key1.2.2⟩
def Neat : T → Prop
 | ⟨l, _, k, v, o, y⟩ => (l = true → y = []) ∧ (l = false → k = [] ∧ v = [] ∧ o = [] ∧ y ≠ []) ∧ ∀ z, z ∈ y → Neat z
theorem neat_eq (t : T) : Neat t ↔ (t.leaf = true → t.kids = []) ∧ (t.leaf = false → t.keys = [] ∧ t.vals = [] ∧ t.over = [] ∧ t.kids ≠ []) ∧ ∀ z ∈ t.kids, Neat z := by cases t; rw [Neat]
theorem Neat.shape : ∀ (t : T), Neat t → Shape t := by
 intro t
 induction t using T.ind with
 | h t ih =>
  intro h
  rw [neat_eq] at h
  rw [shape_eq]
  exact ⟨h.1, fun k hk => ih k hk (h.2.2 k hk)⟩
theorem drop_cons {α : Type} {l : List α} {s : Nat} {x d : α} {r : List α} (h : l.drop s = x :: r) : s < l.length ∧ l.getD s d = x ∧ l.drop (s + 1) = r := by
 have h1 : s < l.length := by
  rcases Nat.lt_or_ge s l.length with h2 | h2
  ·exact h2
  ·rw [List.drop_eq_nil_of_le h2] at h; cases h
 rw [List.drop_eq_getElem_cons h1] at h
 simp only [List.cons.injEq] at h
 exact ⟨h1, by simp [List.getD, List.getElem?_eq_getElem h1, h.1], h.2⟩
theorem rdK_flat {ts : List TN} {f : Nat} (hf : ∀ (t : T) (s : Nat) (post : List TN), Neat t → t.nodes ≤ f → ts.drop s = t.flat s ++ post → rd ts f s = (t, s + t.nodes, false)) : ∀ (ys : List T) (s : Nat) (post : List TN), (∀ y ∈ ys, Neat y) → (ys.map T.nodes).sum ≤ f → ts.drop s = offs s (ys.map T.flat) ++ post → rdK (rd ts f) (startsN s (ys.map T.nodes)) s = (ys, s + (ys.map T.nodes).sum, false)
 | [], s, post, _, _, _ => by simp [startsN, rdK]
 | y :: r, s, post, hn, hl, hd => by
  simp only [List.map_cons, List.sum_cons] at hl
  simp only [List.map_cons, offs, List.append_assoc] at hd
  have hy := hn y (List.mem_cons_self ..)
  have h1 := hf y s _ hy (by omega) hd
  have hlen := flat_len y hy.shape s
  rw [hlen] at hd
  have hd2 : ts.drop (s + y.nodes) = offs (s + y.nodes) (r.map T.flat) ++ post := by
   rw [← List.drop_drop, hd, ← hlen, List.drop_left]
  have h2 := rdK_flat hf r (s + y.nodes) post (fun z hz => hn z (List.mem_cons_of_mem _ hz)) (by omega) hd2
  simp only [List.map_cons, startsN, rdK, h1, if_true, Bool.false_eq_true, if_false, h2, List.sum_cons, Nat.add_assoc]
theorem rd_flat (ts : List TN) : ∀ (f : Nat) (t : T) (s : Nat) (post : List TN), Neat t → t.nodes ≤ f → ts.drop s = t.flat s ++ post → rd ts f s = (t, s + t.nodes, false)
 | 0, t, s, post, hn, hf, hd => by
  have : 1 ≤ t.nodes := by rw [T.nodes_eq]; omega
  omega
 | f + 1, t, s, post, hn, hf, hd => by
  rw [neat_eq] at hn
  rw [T.flat_eq] at hd
  cases hl : t.leaf
  ·rw [hl] at hd
   simp only [Bool.false_eq_true, if_false, List.cons_append] at hd
   obtain ⟨h1, h2, h3⟩ := drop_cons (d := dT) hd
   obtain ⟨e1, e2, e3, e4⟩ := hn.2.1 hl
   have hns : t.nodes = 1 + (t.kids.map T.nodes).sum := T.nodes_eq t
   have hk := rdK_flat (rd_flat ts f) t.kids (s + 1) post hn.2.2 (by omega) h3
   have hkl : ¬ (startsN (s + 1) (t.kids.map T.nodes)).length = 0 := by
    cases hy : t.kids with
    | nil => exact absurd hy e4
    | cons a r => simp [startsN]
   rw [rd, if_pos h1, h2]
   simp only [Bool.false_eq_true, if_false, hkl, hk]
   obtain ⟨l, p, k, v, o, y⟩ := t
   simp only at hl e1 e2 e3 hns
   subst hl e1 e2 e3
   have e9 : s + 1 + (y.map T.nodes).sum = s + (⟨false, p, [], [], [], y⟩ : T).nodes := by rw [hns]; omega
   rw [← e9]
  ·rw [hl] at hd
   simp only [if_true, List.cons_append, List.nil_append] at hd
   obtain ⟨h1, h2, h3⟩ := drop_cons (d := dT) hd
   have e1 := hn.1 hl
   rw [rd, if_pos h1, h2]
   obtain ⟨l, p, k, v, o, y⟩ := t
   simp only at hl e1
   subst hl e1
   simp [T.nodes]
theorem flat_ok {t : T} (hg : t.good true = true) (hn : Neat t) (hh : 0 ≤ t.ht) (hm : t.nodes ≤ 1000) (hk : t.slots.all (fun s => kyB s.1) = true) (ha : ascB (t.slots.map (fun s => s.1)) = true) (hu : t.nums.Nodup) : SpecOk (t.flat 0) ∧ rd (t.flat 0) ((t.flat 0).length + 1) 0 = (t, (t.flat 0).length, false) := by
 have hl := flat_len t hn.shape 0
 have h1 : 1 ≤ t.nodes := by rw [T.nodes_eq]; omega
 have hr := rd_flat (t.flat 0) ((t.flat 0).length + 1) t 0 [] hn (by omega) (by simp)
 rw [Nat.zero_add, ← hl] at hr
 exact ⟨⟨⟨by omega, by omega⟩, t, hr, hg, hk, hh, by omega, ha, rfl, hu⟩, hr⟩
theorem cut_neat {t : T} (h : Neat t) (h5 : t.size ≤ 5) : ∀ x ∈ cutT t, Neat x := by
 intro x hx
 unfold cutT at hx
 split at hx
 ·simp at hx; subst hx; exact h
 ·rename_i h4
  rw [neat_eq] at h
  have hk : t.leaf = false → 4 < t.kids.length := fun hl => by simp [T.size, hl] at h4; omega
  simp only [List.mem_cons, List.not_mem_nil, or_false] at hx
  rcases hx with rfl | rfl
  ·rw [neat_eq]
   refine ⟨fun hl => by simp [T.fore, h.1 hl], fun hl => ?_, fun z hz => h.2.2 z (List.mem_of_mem_take hz)⟩
   obtain ⟨e1, e2, e3, e4⟩ := h.2.1 hl
   have := hk hl
   refine ⟨by simp [T.fore, e1], by simp [T.fore, e2], by simp [T.fore, e3], fun e => ?_⟩
   have h9 : (t.kids.take 3).length = 0 := by rw [show t.kids.take 3 = [] from e]; rfl
   rw [List.length_take] at h9
   omega
  ·rw [neat_eq]
   refine ⟨fun hl => by simp [T.rest, h.1 hl], fun hl => ?_, fun z hz => h.2.2 z (List.mem_of_mem_drop hz)⟩
   obtain ⟨e1, e2, e3, e4⟩ := h.2.1 hl
   have := hk hl
   refine ⟨by simp [T.rest, e1], by simp [T.rest, e2], by simp [T.rest, e3], fun e => ?_⟩
   have h9 : (t.kids.drop 3).length = 0 := by rw [show t.kids.drop 3 = [] from e]; rfl
   rw [List.length_drop] at h9
   omega
theorem put_neat (key val : ByteArray) (hv : val.size ≤ 400) : ∀ (t : T) (r : Bool), t.good r = true → Neat t → Neat (putT key val t) := by
 intro t
 induction t using T.ind with
 | h t ih =>
  intro r hg hn
  have hs := hn.shape
  have hn' := (neat_eq t).1 hn
  cases hl : t.leaf
  ·have h0 : 0 < t.kids.length := by have := (good_two hg hl).1; omega
   obtain ⟨k, hk, hkm⟩ := tow_kid (key := key) (ys := t.kids) h0
   have hkn := ih k hkm false (good_kid hg hkm) (hn'.2.2 k hkm)
   have hsz := put_size (key := key) hv (good_kid hg hkm) (hn'.2.2 k hkm).shape
   rw [putT_inner hl hk, neat_eq]
   refine ⟨fun e => by simp at e, fun _ => ⟨rfl, rfl, rfl, fun e => ?_⟩, fun z hz => ?_⟩
   ·have := (cut_len (putT key val k)).1
    have h9 : (t.kids.take (towN key t.kids) ++ cutT (putT key val k) ++ t.kids.drop (towN key t.kids + 1)).length = 0 := by rw [show t.kids.take (towN key t.kids) ++ cutT (putT key val k) ++ t.kids.drop (towN key t.kids + 1) = [] from e]; rfl
    rw [List.length_append, List.length_append] at h9
    omega
   ·rcases List.mem_append.1 hz with hz | hz
    ·rcases List.mem_append.1 hz with hz | hz
     ·exact hn'.2.2 z (List.mem_of_mem_take hz)
     ·exact cut_neat hkn hsz z hz
    ·exact hn'.2.2 z (List.mem_of_mem_drop hz)
  ·rw [putT_leaf hl, neat_eq]
   exact ⟨fun _ => rfl, fun e => by simp [leafZ] at e, fun z hz => by simp [leafZ] at hz⟩
theorem towO_none2 {key : ByteArray} : ∀ (ys : List T), towO key ys = none → ∀ (i : Nat) k, ys[i]? = some k → ¬ leB k.low key = true
 | [], _, i, k, h => by simp at h
 | t :: r, hn, i, k, h => by
  unfold towO at hn
  cases hr : towO key r with
  | some m => rw [hr] at hn; cases hn
  | none =>
   rw [hr] at hn
   simp only [ite_eq_right_iff] at hn
   cases i with
   | zero => simp at h; subst h; intro hc; exact absurd (hn hc) (by simp)
   | succ i => exact towO_none2 r hr i k (by simpa using h)
theorem towO_some2 {key : ByteArray} : ∀ (ys : List T) (m : Nat), towO key ys = some m → (∃ k, ys[m]? = some k ∧ leB k.low key = true) ∧ ∀ (i : Nat) k, m < i → ys[i]? = some k → ¬ leB k.low key = true
 | [], m, h => by simp [towO] at h
 | t :: r, m, h => by
  unfold towO at h
  cases hr : towO key r with
  | some m' =>
   rw [hr] at h
   simp at h
   subst h
   obtain ⟨⟨k, h1, h2⟩, h3⟩ := towO_some2 r m' hr
   refine ⟨⟨k, by simpa using h1, h2⟩, fun i k hi hk => ?_⟩
   cases i with
   | zero => omega
   | succ i => exact h3 i k (by omega) (by simpa using hk)
  | none =>
   rw [hr] at h
   simp only [Option.ite_none_right_eq_some, Option.some.injEq] at h
   obtain ⟨h1, rfl⟩ := h
   refine ⟨⟨t, rfl, h1⟩, fun i k hi hk => ?_⟩
   cases i with
   | zero => omega
   | succ i => exact towO_none2 r hr i k (by simpa using hk)
theorem toward_tow {t : T} {key : ByteArray} (h0 : 0 < t.kids.length) : TowardIs t key (towN key t.kids) := by
 unfold towN
 cases h : towO key t.kids with
 | none =>
  refine ⟨h0, .inl rfl, fun i k _ hk => towO_none2 _ h i k hk⟩
 | some m =>
  obtain ⟨⟨k, h1, h2⟩, h3⟩ := towO_some2 _ _ h
  exact ⟨(List.getElem?_eq_some_iff.1 h1).1, .inr ⟨k, h1, h2⟩, h3⟩
theorem toward_split {t k : T} {key : ByteArray} {m : Nat} (hl : t.leaf = false) (hg : ∃ r, t.good r = true) (hs : SortT t.slots) (hm : TowardIs t key m) (hk : t.kids[m]? = some k) :
  (∀ s ∈ ((t.kids.take m).map T.slots).flatten, lessB s.1 key = true) ∧ (∀ s ∈ ((t.kids.drop (m + 1)).map T.slots).flatten, lessB key s.1 = true) ∧ SortT k.slots ∧ t.slots = ((t.kids.take m).map T.slots).flatten ++ k.slots ++ ((t.kids.drop (m + 1)).map T.slots).flatten := by
 obtain ⟨r, hg⟩ := hg
 have hsl : t.slots = (t.kids.map T.slots).flatten := by rw [T.slots_eq, if_neg (by simp [hl]), List.nil_append]
 have hgk : ∀ q ∈ t.kids, q.good false = true := fun q hq => goodG_kid hg hq
 have hkm := List.mem_of_getElem? hk
 obtain ⟨hi2, e2⟩ := List.getElem?_eq_some_iff.1 hk
 have hsp : t.kids = t.kids.take m ++ k :: t.kids.drop (m + 1) := by
  rw [← e2, List.getElem_cons_drop, List.take_append_drop]
 have hfl : t.slots = ((t.kids.take m).map T.slots).flatten ++ k.slots ++ ((t.kids.drop (m + 1)).map T.slots).flatten := by
  rw [hsl]
  conv => lhs; rw [hsp]
  simp
 have hs2 := hs
 unfold SortT at hs2
 rw [hfl, List.append_assoc, List.pairwise_append] at hs2
 obtain ⟨_, hs3, hA⟩ := hs2
 rw [List.pairwise_append] at hs3
 obtain ⟨hsk, hsC, hB⟩ := hs3
 refine ⟨fun s hsm => ?_, fun s hsm => ?_, hsk, hfl⟩
 ·rcases hm.2.1 with h0 | ⟨k', hk', hle⟩
  ·subst h0; simp at hsm
  ·have hkk : k' = k := by rw [hk] at hk'; exact (Option.some.inj hk').symm
   subst hkk
   obtain ⟨s', r', e'⟩ := List.exists_cons_of_ne_nil (slots_ne k' (hgk k' hkm))
   have hlow := low_head k' (hgk k' hkm) s' r' e'
   have hlt := hA s hsm s' (by rw [e']; simp)
   rw [hlow] at hlt
   rcases (le_iff _ _).1 hle with h5 | h5
   ·exact less_trans hlt h5
   ·rw [← h5]; exact hlt
 ·obtain ⟨l, hlm, hsl2⟩ := List.mem_flatten.1 hsm
  obtain ⟨q, hq, rfl⟩ := List.mem_map.1 hlm
  obtain ⟨i, hi, hqe⟩ := List.mem_iff_getElem.1 hq
  have hqi : t.kids[m + 1 + i]? = some q := by
   rw [← List.getElem?_drop, List.getElem?_eq_getElem hi, hqe]
  have hnle := hm.2.2 (m + 1 + i) q (by omega) hqi
  have hqm := List.mem_of_getElem? hqi
  obtain ⟨s', r', e'⟩ := List.exists_cons_of_ne_nil (slots_ne q (hgk q hqm))
  have hlow := low_head q (hgk q hqm) s' r' e'
  have hkl : lessB key s'.1 = true := by
   rw [hlow]
   apply Classical.byContradiction
   intro hc
   apply hnle
   rw [le_iff]
   by_cases h9 : lessB q.low key = true
   ·exact .inl h9
   ·exact .inr (less_tri h9 hc)
  have hsq : SortT q.slots := by
   have h8 : (List.map T.slots (t.kids.drop (m + 1))).flatten.Pairwise (fun a b => lessB a.1 b.1 = true) := hsC
   rw [List.pairwise_flatten] at h8
   exact h8.1 _ hlm
  rw [e'] at hsl2 hsq
  rcases List.mem_cons.1 hsl2 with rfl | hin
  ·exact hkl
  ·exact less_trans hkl ((List.pairwise_cons.1 hsq).1 s hin)
theorem posT_append {key : ByteArray} : ∀ (A B : List (ByteArray × ByteArray × Int)), (∀ s ∈ A, lessB s.1 key = true) → posT key (A ++ B) = A.length + posT key B
 | [], B, _ => by simp
 | a :: A, B, h => by
  rw [List.cons_append, posT, if_pos (h a (List.mem_cons_self ..)), posT_append A B (fun s hs => h s (List.mem_cons_of_mem _ hs))]
  simp
  omega
theorem less_asymm {a b : ByteArray} (h : lessB a b = true) : ¬ lessB b a = true := fun h2 => less_irrefl _ (less_trans h h2)
theorem posT_left {key : ByteArray} : ∀ (B C : List (ByteArray × ByteArray × Int)), (∀ s ∈ C, lessB key s.1 = true) → posT key (B ++ C) = posT key B
 | [], [], _ => rfl
 | [], c :: C, h => by
  rw [List.nil_append, show posT key (c :: C) = 0 from if_neg (less_asymm (h c (List.mem_cons_self ..)))]
  rfl
 | b :: B, C, h => by
  rw [List.cons_append, posT, posT, posT_left B C h]
theorem putZ_mid {key val : ByteArray} {A B C : List (ByteArray × ByteArray × Int)} (hA : ∀ s ∈ A, lessB s.1 key = true) (hC : ∀ s ∈ C, lessB key s.1 = true) : putZ key val (A ++ B ++ C) = A ++ putZ key val B ++ C := by
 have hp : posT key (A ++ B ++ C) = A.length + posT key B := by rw [List.append_assoc, posT_append A _ hA, posT_left B C hC]
 have hle := posT_le key B
 have hth : thereT key (A ++ B ++ C) = thereT key B := by
  unfold thereT
  rw [hp]
  by_cases h1 : posT key B < B.length
  ·have : (A ++ B ++ C).getD (A.length + posT key B) (ByteArray.empty, ByteArray.empty, 0) = B.getD (posT key B) (ByteArray.empty, ByteArray.empty, 0) := by
    simp only [List.getD]
    rw [List.append_assoc, List.getElem?_append_right (by omega), Nat.add_sub_cancel_left, List.getElem?_append_left h1]
   rw [this]
   have h2 : A.length + posT key B < (A ++ B ++ C).length := by simp; omega
   simp only [h1, h2, true_and]
  ·have he : posT key B = B.length := by omega
   cases C with
   | nil => simp [he]
   | cons c C =>
    have : (A ++ B ++ c :: C).getD (A.length + posT key B) (ByteArray.empty, ByteArray.empty, 0) = c := by
     simp only [List.getD]
     rw [List.append_assoc, List.getElem?_append_right (by omega), Nat.add_sub_cancel_left, he, List.getElem?_append_right (Nat.le_refl _)]
     simp
    rw [this]
    have hne : c.1 ≠ key := fun e => by have := hC c (List.mem_cons_self ..); rw [e] at this; exact less_irrefl _ this
    simp [h1, hne]
 unfold putZ
 rw [hth, hp]
 have e1 : (A ++ B ++ C).take (A.length + posT key B) = A ++ B.take (posT key B) := by
  rw [List.append_assoc, List.take_length_add_append, List.take_append_of_le_length hle]
 rw [e1]
 have e2 : ∀ j, j ≤ B.length → (A ++ B ++ C).drop (A.length + j) = B.drop j ++ C := fun j hj => by
  rw [List.append_assoc, List.drop_length_add_append, List.drop_append_of_le_length hj]
 by_cases ht : thereT key B = true
 ·have h2 : posT key B < B.length := by simp [thereT] at ht; exact ht.1
  rw [if_pos ht, if_pos ht, Nat.add_assoc, e2 _ (by omega)]
  simp
 ·rw [if_neg ht, if_neg ht, e2 _ hle]
  simp
theorem take_zipP {α β : Type} : ∀ (a : List α) (b : List β) (i : Nat), (a.take i).zip (b.take i) = (a.zip b).take i
 | [], b, i => by simp
 | a :: r, [], i => by simp
 | a :: r, b :: q, 0 => by simp
 | a :: r, b :: q, i + 1 => by simp [take_zipP r q i]
theorem drop_zipP {α β : Type} : ∀ (a : List α) (b : List β) (i : Nat), (a.drop i).zip (b.drop i) = (a.zip b).drop i
 | [], b, i => by simp
 | a :: r, [], i => by simp
 | a :: r, b :: q, 0 => by simp
 | a :: r, b :: q, i + 1 => by simp [drop_zipP r q i]
theorem cut_slots_eq {t : T} (h : t.leaf = true → t.vals.length = t.keys.length ∧ t.over.length = t.keys.length ∧ t.kids = []) (h2 : t.leaf = false → t.keys = [] ∧ t.vals = [] ∧ t.over = []) : ((cutT t).map T.slots).flatten = t.slots := by
 unfold cutT
 split
 ·simp
 ·cases hl : t.leaf
  ·simp only [List.map_cons, List.map_nil, List.flatten_cons, List.flatten_nil, List.append_nil, T.slots_eq, T.fore, T.rest, hl, Bool.false_eq_true, if_false, List.nil_append]
   rw [← List.flatten_append, ← List.map_append, List.take_append_drop]
  ·obtain ⟨e1, e2, e3⟩ := h hl
   simp only [List.map_cons, List.map_nil, List.flatten_cons, List.flatten_nil, List.append_nil, T.slots_eq, T.fore, T.rest, hl, if_true, e3, List.take_nil, List.drop_nil]
   rw [take_zipP, take_zipP, drop_zipP, drop_zipP, List.take_append_drop]
theorem put_neat_slim (key val : ByteArray) (t : T) : ((putT key val t).leaf = true → (putT key val t).vals.length = (putT key val t).keys.length ∧ (putT key val t).over.length = (putT key val t).keys.length ∧ (putT key val t).kids = []) ∧ ((putT key val t).leaf = false → (putT key val t).keys = [] ∧ (putT key val t).vals = [] ∧ (putT key val t).over = []) := by
 obtain ⟨l, p, k, v, o, y⟩ := t
 rw [putT]
 cases l
 ·exact ⟨fun h => by simp at h, fun _ => by simp⟩
 ·exact ⟨fun _ => by simp [leafZ], fun h => by simp [leafZ] at h⟩
theorem put_slots_eq (key val : ByteArray) : ∀ (t : T) (r : Bool), t.good r = true → Neat t → SortT t.slots → (putT key val t).slots = putZ key val t.slots := by
 intro t
 induction t using T.ind with
 | h t ih =>
  intro r hg hn hs
  have hn' := (neat_eq t).1 hn
  cases hl : t.leaf
  ·have h0 : 0 < t.kids.length := by have := (good_two hg hl).1; omega
   obtain ⟨k, hk, hkm⟩ := tow_kid (key := key) (ys := t.kids) h0
   obtain ⟨hA, hC, hsk, hfl⟩ := toward_split hl ⟨r, hg⟩ hs (toward_tow (key := key) h0) hk
   have hks := ih k hkm false (good_kid hg hkm) (hn'.2.2 k hkm) hsk
   have hpn := put_neat_slim key val k
   rw [putT_inner hl hk, hfl, putZ_mid hA hC, ← hks, T.slots_eq]
   simp only [Bool.false_eq_true, if_false, List.nil_append, List.map_append, List.flatten_append]
   rw [cut_slots_eq hpn.1 hpn.2]
  ·rw [putT_leaf hl]
   have hsl : t.slots = t.keys.zip (t.vals.zip t.over) := by rw [T.slots_eq, hl, hn'.1 hl]; simp
   rw [hsl, T.slots_eq]
   simp only [leafZ, if_true, List.map_nil, List.flatten_nil, List.append_nil]
   exact zip_map3 _
theorem htOf_out {hs : List Int} (hne : hs ≠ []) (h : 0 ≤ T.htOf hs) : ∀ x ∈ hs, x = T.htOf hs - 1 ∧ 0 ≤ x := by
 cases hs with
 | nil => exact absurd rfl hne
 | cons a r =>
  have hu : T.htOf (a :: r) = if a < 0 then -1 else if r.all (fun x => x == a) then a + 1 else -1 := rfl
  rw [hu] at h ⊢
  by_cases h1 : a < 0
  ·rw [if_pos h1] at h; omega
  ·rw [if_neg h1] at h ⊢
   by_cases h2 : r.all (fun x => x == a) = true
   ·rw [if_pos h2] at h ⊢
    intro x hx
    rcases List.mem_cons.1 hx with rfl | hx
    ·omega
    ·have := List.all_eq_true.1 h2 x hx
     simp at this
     omega
   ·rw [if_neg h2] at h; omega
theorem htOf_mk {hs : List Int} {h : Int} (hne : hs ≠ []) (h0 : 0 ≤ h) (ha : ∀ x ∈ hs, x = h) : T.htOf hs = h + 1 := by
 cases hs with
 | nil => exact absurd rfl hne
 | cons a r =>
  have e := ha a (List.mem_cons_self ..)
  subst e
  show (if a < 0 then -1 else if r.all (fun x => x == a) then a + 1 else -1) = _
  rw [if_neg (by omega), if_pos]
  rw [List.all_eq_true]
  intro x hx
  simpa using ha x (List.mem_cons_of_mem _ hx)
theorem ht_kids {t : T} (hl : t.leaf = false) (hne : t.kids ≠ []) (h : 0 ≤ t.ht) : ∀ k ∈ t.kids, k.ht = t.ht - 1 ∧ 0 ≤ k.ht := by
 rw [T.ht_eq, hl] at h ⊢
 simp only [Bool.false_eq_true, if_false] at h ⊢
 intro k hk
 exact htOf_out (by simpa using hne) h k.ht (List.mem_map.2 ⟨k, hk, rfl⟩)
theorem ht_inner {ys : List T} {p : Int} {a b : List ByteArray} {c : List Int} {h : Int} (hne : ys ≠ []) (h0 : 0 ≤ h) (ha : ∀ y ∈ ys, y.ht = h) : (⟨false, p, a, b, c, ys⟩ : T).ht = h + 1 := by
 rw [T.ht_eq]
 simp only [Bool.false_eq_true, if_false]
 exact htOf_mk (by simpa using hne) h0 (fun x hx => by obtain ⟨y, hy, rfl⟩ := List.mem_map.1 hx; exact ha y hy)
theorem cut_ht {t : T} (h : 0 ≤ t.ht) : ∀ x ∈ cutT t, x.ht = t.ht := by
 intro x hx
 unfold cutT at hx
 split at hx
 ·simp at hx; subst hx; rfl
 ·rename_i h4
  cases hl : t.leaf
  ·have h5 : 4 < t.kids.length := by simp [T.size, hl] at h4; omega
   have hk := ht_kids hl (fun e => by rw [e] at h5; simp at h5) h
   obtain ⟨k0, hk0⟩ : ∃ k0, k0 ∈ t.kids := ⟨t.kids[0], List.getElem_mem _⟩
   have h0 : 0 ≤ t.ht - 1 := by have := hk k0 hk0; omega
   simp only [List.mem_cons, List.not_mem_nil, or_false] at hx
   have e1 : (t.fore 3).ht = t.ht - 1 + 1 := by
    unfold T.fore
    rw [hl]
    exact ht_inner (fun e => absurd (show (t.kids.take 3).length = 0 by rw [e]; rfl) (by rw [List.length_take]; omega)) h0 (fun y hy => (hk y (List.mem_of_mem_take hy)).1)
   have e2 : (t.rest 3).ht = t.ht - 1 + 1 := by
    unfold T.rest
    rw [hl]
    exact ht_inner (fun e => absurd (show (t.kids.drop 3).length = 0 by rw [e]; rfl) (by rw [List.length_drop]; omega)) h0 (fun y hy => (hk y (List.mem_of_mem_drop hy)).1)
   rcases hx with rfl | rfl <;> omega
  ·have e0 : t.ht = 0 := by rw [T.ht_eq, hl]; rfl
   simp only [List.mem_cons, List.not_mem_nil, or_false] at hx
   rcases hx with rfl | rfl <;> (rw [e0, T.ht_eq]; simp [T.fore, T.rest, hl])
theorem put_ht (key val : ByteArray) : ∀ (t : T) (r : Bool), t.good r = true → 0 ≤ t.ht → (putT key val t).ht = t.ht := by
 intro t
 induction t using T.ind with
 | h t ih =>
  intro r hg hh
  cases hl : t.leaf
  ·have h0 : 0 < t.kids.length := by have := (good_two hg hl).1; omega
   obtain ⟨k, hk, hkm⟩ := tow_kid (key := key) (ys := t.kids) h0
   have hks := ht_kids hl (fun e => by rw [e] at h0; simp at h0) hh
   have hik := ih k hkm false (good_kid hg hkm) (hks k hkm).2
   have h1 := (hks k hkm)
   rw [putT_inner hl hk]
   have := (cut_len (putT key val k)).1
   rw [ht_inner (h := t.ht - 1) (fun e => absurd (congrArg List.length e) (by rw [List.length_append, List.length_append, List.length_nil]; omega)) (by omega) (fun y hy => ?_)]
   ·omega
   ·rcases List.mem_append.1 hy with hy | hy
    ·rcases List.mem_append.1 hy with hy | hy
     ·exact (hks y (List.mem_of_mem_take hy)).1
     ·rw [cut_ht (by omega) y hy, hik]; exact h1.1
    ·exact (hks y (List.mem_of_mem_drop hy)).1
  ·rw [putT_leaf hl, T.ht_eq, T.ht_eq, hl]
   simp [leafZ]
theorem cut_nums {t : T} (hp : t.page = 0) (h : t.leaf = true → t.kids = []) (h2 : t.leaf = false → t.over = []) : ((cutT t).map T.nums).flatten = t.nums := by
 unfold cutT
 split
 ·simp
 ·cases hl : t.leaf
  ·simp only [List.map_cons, List.map_nil, List.flatten_cons, List.flatten_nil, List.append_nil, T.nums_eq, T.fore, T.rest, hp, h2 hl, if_true, List.take_nil, List.drop_nil, List.filter_nil, List.nil_append]
   rw [← List.flatten_append, ← List.map_append, List.take_append_drop]
  ·simp only [List.map_cons, List.map_nil, List.flatten_cons, List.flatten_nil, List.append_nil, T.nums_eq, T.fore, T.rest, hp, h hl, if_true, List.take_nil, List.drop_nil, List.nil_append]
   rw [← List.filter_append, List.take_append_drop]
theorem put_page0 (key val : ByteArray) (t : T) : (putT key val t).page = 0 := by
 obtain ⟨l, p, k, v, o, y⟩ := t
 rw [putT]
 cases l <;> simp [leafZ]
theorem put_nums (key val : ByteArray) : ∀ (t : T) (r : Bool), t.good r = true → Neat t → (putT key val t).nums.Sublist t.nums := by
 intro t
 induction t using T.ind with
 | h t ih =>
  intro r hg hn
  have hn' := (neat_eq t).1 hn
  cases hl : t.leaf
  ·have h0 : 0 < t.kids.length := by have := (good_two hg hl).1; omega
   obtain ⟨k, hk, hkm⟩ := tow_kid (key := key) (ys := t.kids) h0
   have hik := ih k hkm false (good_kid hg hkm) (hn'.2.2 k hkm)
   obtain ⟨hi2, e2⟩ := List.getElem?_eq_some_iff.1 hk
   have hsp : t.kids = t.kids.take (towN key t.kids) ++ k :: t.kids.drop (towN key t.kids + 1) := by
    rw [← e2, List.getElem_cons_drop, List.take_append_drop]
   have hsl := put_neat_slim key val k
   have hcn := cut_nums (t := putT key val k) (put_page0 key val k) (fun h => (hsl.1 h).2.2) (fun h => (hsl.2 h).2.2)
   have h9 : (putT key val t).nums = ((t.kids.take (towN key t.kids)).map T.nums).flatten ++ (putT key val k).nums ++ ((t.kids.drop (towN key t.kids + 1)).map T.nums).flatten := by
    rw [putT_inner hl hk, T.nums_eq]
    simp only [if_true, List.filter_nil, List.nil_append, List.append_nil, List.map_append, List.flatten_append]
    rw [hcn]
   have h8 : (t.kids.map T.nums).flatten = ((t.kids.take (towN key t.kids)).map T.nums).flatten ++ k.nums ++ ((t.kids.drop (towN key t.kids + 1)).map T.nums).flatten := by
    conv => lhs; rw [hsp]
    simp
   rw [h9, T.nums_eq t, h8]
   refine List.Sublist.trans ?_ (List.sublist_append_right _ _)
   exact List.Sublist.append (List.Sublist.append (List.Sublist.refl _) hik) (List.Sublist.refl _)
  ·have hg2 := (good_parts hg).2.1 hl
   rw [putT_leaf hl, T.nums_eq, T.nums_eq t, hn'.1 hl]
   simp only [leafZ, if_true, List.nil_append, List.map_nil, List.flatten_nil, List.append_nil]
   refine List.Sublist.trans ?_ (List.sublist_append_right _ _)
   have hov : t.over = (t.keys.zip (t.vals.zip t.over)).map (fun s => s.2.2) := by
    have m0 : (t.keys.zip (t.vals.zip t.over)).map (fun s => s.2) = t.vals.zip t.over := List.map_snd_zip (by simp; omega)
    have : (t.keys.zip (t.vals.zip t.over)).map (fun s => s.2.2) = ((t.keys.zip (t.vals.zip t.over)).map (fun s => s.2)).map (fun s => s.2) := by simp
    rw [this, m0]
    exact (List.map_snd_zip (by omega)).symm
   generalize t.keys.zip (t.vals.zip t.over) = zs at hov ⊢
   rw [hov]
   unfold putZ
   simp only [List.map_append, List.map_cons, List.filter_append, List.map_take, List.map_drop]
   have e0 : List.filter (fun x => x != 0) ((0 : Int) :: (zs.map (fun s => s.2.2)).drop (if thereT key zs = true then posT key zs + 1 else posT key zs)) = List.filter (fun x => x != 0) ((zs.map (fun s => s.2.2)).drop (if thereT key zs = true then posT key zs + 1 else posT key zs)) := by simp
   rw [e0, ← List.filter_append]
   refine List.Sublist.filter _ ?_
   have e3 : ∀ (l : List Int) (i j : Nat), i ≤ j → (l.take i ++ l.drop j).Sublist l := fun l i j hij => by
    have h7 : (l.drop j).Sublist (l.drop i) := by
     rw [show j = i + (j - i) by omega, ← List.drop_drop]
     exact List.drop_sublist _ _
    have := List.Sublist.append (List.Sublist.refl (l.take i)) h7
    rwa [List.take_append_drop] at this
   exact e3 _ _ _ (by split <;> omega)
theorem sort_ascB : ∀ (zs : List (ByteArray × ByteArray × Int)), SortT zs → ascB (zs.map (fun s => s.1)) = true
 | [], _ => rfl
 | [a], _ => rfl
 | a :: b :: r, h => by
  have h1 := List.pairwise_cons.1 h
  have h2 := sort_ascB (b :: r) h1.2
  simp only [List.map_cons, ascB, Bool.and_eq_true] at h2 ⊢
  exact ⟨h1.1 b (List.mem_cons_self ..), h2⟩
theorem posT_lt {key : ByteArray} : ∀ (zs : List (ByteArray × ByteArray × Int)), ∀ s ∈ zs.take (posT key zs), lessB s.1 key = true
 | [], s, h => by simp at h
 | a :: r, s, h => by
  unfold posT at h
  split at h
  ·rename_i h1
   rw [List.take_succ_cons] at h
   rcases List.mem_cons.1 h with rfl | h
   ·exact h1
   ·exact posT_lt r s h
  ·simp at h
theorem posT_ge {key : ByteArray} : ∀ (zs : List (ByteArray × ByteArray × Int)), SortT zs → ∀ s ∈ zs.drop (if thereT key zs = true then posT key zs + 1 else posT key zs), lessB key s.1 = true
 | [], _, s, h => by simp at h
 | a :: r, hs, s, h => by
  have h1 := List.pairwise_cons.1 hs
  by_cases hk : lessB a.1 key = true
  ·have hp : posT key (a :: r) = posT key r + 1 := by rw [posT, if_pos hk]
   have ht : thereT key (a :: r) = thereT key r := by
    unfold thereT
    rw [hp]
    simp only [List.length_cons, Nat.add_lt_add_iff_right, List.getD, List.getElem?_cons_succ]
    exact decide_eq_decide.2 Iff.rfl
   rw [ht, hp] at h
   refine posT_ge r h1.2 s ?_
   split at h <;> (rename_i h9; simp only [h9, if_true, if_false, Bool.false_eq_true] at h ⊢; simpa using h)
  ·have hp : posT key (a :: r) = 0 := by rw [posT, if_neg hk]
   by_cases he : a.1 = key
   ·have ht : thereT key (a :: r) = true := by unfold thereT; rw [hp]; simp [List.getD, he]
    rw [ht, hp] at h
    simp at h
    rw [← he]
    exact h1.1 s h
   ·have ht : ¬ thereT key (a :: r) = true := by unfold thereT; rw [hp]; simp [List.getD, he]
    rw [if_neg ht, hp] at h
    have hka : lessB key a.1 = true := by
     apply Classical.byContradiction
     intro hc
     exact he (less_tri hk hc)
    rcases List.mem_cons.1 (by simpa using h) with rfl | h
    ·exact hka
    ·exact less_trans hka (h1.1 s h)
theorem putZ_sort {key val : ByteArray} {zs : List (ByteArray × ByteArray × Int)} (h : SortT zs) : SortT (putZ key val zs) := by
 unfold putZ SortT
 rw [List.pairwise_append]
 refine ⟨List.Pairwise.sublist (List.take_sublist _ _) h, ?_, fun a ha b hb => ?_⟩
 ·rw [List.pairwise_cons]
  exact ⟨fun s hs => posT_ge zs h s hs, List.Pairwise.sublist (List.drop_sublist _ _) h⟩
 ·have h1 := posT_lt zs a ha
  rcases List.mem_cons.1 hb with rfl | hb
  ·exact h1
  ·exact less_trans h1 (posT_ge zs h b hb)
theorem put_valid {ts : List TN} {t : T} {key val : ByteArray} (hk : kyB key = true) (hv : val.size ≤ 400) (hg : t.good true = true) (hn : Neat t) (hh : 0 ≤ t.ht) (hky : t.slots.all (fun s => kyB s.1) = true) (hs : SortT t.slots) (hu : t.nums.Nodup) (hm : (rootP key val t).nodes ≤ 1000) :
  SpecOk ((rootP key val t).flat 0) ∧ rd ((rootP key val t).flat 0) (((rootP key val t).flat 0).length + 1) 0 = (rootP key val t, ((rootP key val t).flat 0).length, false) ∧ (rootP key val t).slots = putZ key val t.slots ∧ Neat (rootP key val t) ∧ 0 ≤ (rootP key val t).ht ∧ (rootP key val t).nums.Nodup := by
 have hok := rootP_ok (key := key) (val := val) hv hk hg hn.shape hky
 have hpn := put_neat key val hv t true hg hn
 have hsz := (soft_put key val hv t true hg hn.shape).size.2
 have hps := put_slots_eq key val t true hg hn hs
 have hph := put_ht key val t true hg hh
 have hpu := put_nums key val t true hg hn
 have hsl := put_neat_slim key val t
 have hN : Neat (rootP key val t) := by
  unfold rootP
  split
  ·exact hpn
  ·rw [neat_eq]
   exact ⟨fun e => by simp at e, fun _ => ⟨rfl, rfl, rfl, fun e => by have := (cut_len (putT key val t)).1; rw [show cutT (putT key val t) = [] from e] at this; simp at this⟩, fun z hz => cut_neat hpn hsz z hz⟩
 have hS : (rootP key val t).slots = putZ key val t.slots := by
  rw [← hps]
  unfold rootP
  split
  ·rfl
  ·rw [T.slots_eq]
   simp only [Bool.false_eq_true, if_false, List.nil_append]
   exact cut_slots_eq hsl.1 hsl.2
 have hH : 0 ≤ (rootP key val t).ht := by
  unfold rootP
  split
  ·omega
  ·rw [ht_inner (h := t.ht) (fun e => by have := (cut_len (putT key val t)).1; rw [show cutT (putT key val t) = [] from e] at this; simp at this) hh (fun y hy => by rw [cut_ht (by omega) y hy, hph])]
   omega
 have hU : (rootP key val t).nums.Nodup := by
  have h1 : (putT key val t).nums.Nodup := hpu.nodup hu
  unfold rootP
  split
  ·exact h1
  ·rw [T.nums_eq]
   simp only [if_true, List.filter_nil, List.nil_append]
   rw [cut_nums (put_page0 key val t) (fun h => (hsl.1 h).2.2) (fun h => (hsl.2 h).2.2)]
   exact h1
 obtain ⟨h1, h2⟩ := flat_ok hok.1 hN hH hm hok.2.2.2.2 (sort_ascB _ (by rw [hS]; exact putZ_sort hs)) hU
 exact ⟨h1, h2, hS, hN, hH, hU⟩
end Go.Proofs.Ytcjjbajmjfgbcaa
