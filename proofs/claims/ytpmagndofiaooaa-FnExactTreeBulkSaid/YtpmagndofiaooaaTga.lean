import Derived.Test.YtpmagndofiaooaaTpv
namespace Go.Proofs.Ytpmagndofiaooaa
open Go.RowKit
set_option linter.unusedVariables false
set_option linter.unusedSimpArgs false
set_option maxRecDepth 100000

def slCells (s : ByteArray × ByteArray × Int) : List Value := [.string s.1, .string s.2.1, .int .i64 s.2.2]
theorem sl3 : ∀ x, (slCells x).length = 3 := fun _ => rfl
/-- The slots of a leaf, in blocks of P. -/
def SlAt (w : World) (P : Nat → Prop) (a : Option Addr) (n c : Nat) (zs : List (ByteArray × ByteArray × Int)) : Prop :=
  zs.length = n ∧ n ≤ c ∧ c ≤ maxLen ∧ (0 < n → ∃ b, a = some ⟨b, 0, none⟩ ∧ P b ∧ ∀ r, r < n * 3 → w.cell? ⟨b, r, none⟩ = (rowsOf slCells zs)[r]?)
/-- A node of the program's, with all that is below it, in blocks of P. -/
def GIs (w : World) (P : Nat → Prop) : T → Value → Prop
  | ⟨l, p, k, v, o, y⟩, u => if l then ∃ (L : Nat) (a : Option Addr) (n c : Nat), u = .iface 94 (.pointer (some ⟨L, 0, none⟩)) ∧ P L ∧ w.heap[L]? = some (.cells #[.int .i64 p, .slice a n c] 98) ∧ SlAt w P a n c (k.zip (v.zip o)) ∧ n = k.length
    else ∃ (L : Nat) (a : Option Addr) (n c : Nat) (us : Nat → Value), u = .iface 99 (.pointer (some ⟨L, 0, none⟩)) ∧ P L ∧ w.heap[L]? = some (.cells #[.int .i64 p, .slice a n c] 101) ∧ (n = y.length ∧ n ≤ c ∧ c ≤ maxLen) ∧ (0 < n → ∃ b, a = some ⟨b, 0, none⟩ ∧ P b ∧ ∀ i, i < n → w.cell? ⟨b, i, none⟩ = some (us i)) ∧ ∀ i, ∀ t ∈ y, y[i]? = some t → GIs w P t (us i)
structure GLeaf (w : World) (P : Nat → Prop) (t : T) (L : Nat) (a : Option Addr) (n c : Nat) : Prop where
  at' : P L
  box : w.heap[L]? = some (.cells #[.int .i64 t.page, .slice a n c] 98)
  row : SlAt w P a n c (t.keys.zip (t.vals.zip t.over))
  len : n = t.keys.length
structure GInner (w : World) (P : Nat → Prop) (t : T) (L : Nat) (a : Option Addr) (n c : Nat) (us : Nat → Value) : Prop where
  at' : P L
  box : w.heap[L]? = some (.cells #[.int .i64 t.page, .slice a n c] 101)
  len : n = t.kids.length ∧ n ≤ c ∧ c ≤ maxLen
  row : 0 < n → ∃ b, a = some ⟨b, 0, none⟩ ∧ P b ∧ ∀ i, i < n → w.cell? ⟨b, i, none⟩ = some (us i)
  kid : ∀ i, ∀ k ∈ t.kids, t.kids[i]? = some k → GIs w P k (us i)
theorem GIs.leaf {w : World} {P : Nat → Prop} {t : T} {u : Value} (h : GIs w P t u) (hl : t.leaf = true) : ∃ L a n c, u = .iface 94 (.pointer (some ⟨L, 0, none⟩)) ∧ GLeaf w P t L a n c := by
  obtain ⟨l, p, k, v, o, y⟩ := t
  simp only at hl
  rw [GIs.eq_def] at h
  simp only [hl, if_true] at h
  obtain ⟨L, a, n, c, e, h1, h2, h3, h4⟩ := h
  exact ⟨L, a, n, c, e, h1, h2, h3, h4⟩
theorem GIs.inner {w : World} {P : Nat → Prop} {t : T} {u : Value} (h : GIs w P t u) (hl : t.leaf = false) : ∃ L a n c us, u = .iface 99 (.pointer (some ⟨L, 0, none⟩)) ∧ GInner w P t L a n c us := by
  obtain ⟨l, p, k, v, o, y⟩ := t
  simp only at hl
  rw [GIs.eq_def] at h
  simp only [hl, Bool.false_eq_true, if_false] at h
  obtain ⟨L, a, n, c, us, e, h1, h2, h3, h4, h5⟩ := h
  exact ⟨L, a, n, c, us, e, h1, h2, h3, h4, h5⟩
theorem GLeaf.is {w : World} {P : Nat → Prop} {t : T} {L : Nat} {a : Option Addr} {n c : Nat} (h : GLeaf w P t L a n c) (hl : t.leaf = true) : GIs w P t (.iface 94 (.pointer (some ⟨L, 0, none⟩))) := by
  obtain ⟨l, p, k, v, o, y⟩ := t
  simp only at hl
  rw [GIs.eq_def]
  simp only [hl, if_true]
  exact ⟨L, a, n, c, rfl, h.at', h.box, h.row, h.len⟩
theorem GInner.is {w : World} {P : Nat → Prop} {t : T} {L : Nat} {a : Option Addr} {n c : Nat} {us : Nat → Value} (h : GInner w P t L a n c us) (hl : t.leaf = false) : GIs w P t (.iface 99 (.pointer (some ⟨L, 0, none⟩))) := by
  obtain ⟨l, p, k, v, o, y⟩ := t
  simp only at hl
  rw [GIs.eq_def]
  simp only [hl, Bool.false_eq_true, if_false]
  exact ⟨L, a, n, c, us, rfl, h.at', h.box, h.len, h.row, h.kid⟩
theorem SlAt.keep {w w' : World} {P Q : Nat → Prop} {a : Option Addr} {n c : Nat} {zs : List (ByteArray × ByteArray × Int)} (h : SlAt w P a n c zs) (hp : ∀ b, P b → w'.heap[b]? = w.heap[b]?) (hQ : ∀ b, P b → Q b) : SlAt w' Q a n c zs := by
  obtain ⟨h1, h2, h3, h4⟩ := h
  refine ⟨h1, h2, h3, fun hn => ?_⟩
  obtain ⟨b, e, hb, hc⟩ := h4 hn
  exact ⟨b, e, hQ b hb, fun r hr => (World.cell?_of_block (w := w) (a := ⟨b, r, none⟩) (hp b hb)).trans (hc r hr)⟩
theorem GIs.keep {w w' : World} {P Q : Nat → Prop} (hp : ∀ b, P b → w'.heap[b]? = w.heap[b]?) (hQ : ∀ b, P b → Q b) : ∀ t u, GIs w P t u → GIs w' Q t u := by
  intro t
  induction t using T.ind with
  | h t ih =>
    intro u h
    cases hl : t.leaf
    · obtain ⟨L, a, n, c, us, rfl, h1, h2, h3, h4, h5⟩ := h.inner hl
      refine GInner.is (us := us) ⟨hQ L h1, (hp L h1).trans h2, h3, fun hn => ?_, fun i k hm hi => ih k hm _ (h5 i k hm hi)⟩ hl
      obtain ⟨b, e, hb, hc⟩ := h4 hn
      exact ⟨b, e, hQ b hb, fun i hi => (World.cell?_of_block (w := w) (a := ⟨b, i, none⟩) (hp b hb)).trans (hc i hi)⟩
    · obtain ⟨L, a, n, c, rfl, h1, h2, h3, h4⟩ := h.leaf hl
      exact GLeaf.is ⟨hQ L h1, (hp L h1).trans h2, h3.keep hp hQ, h4⟩ hl
theorem box_twoG {w : World} {N : Nat} {v0 v1 : Value} {t : TypeId} (h : w.heap[N]? = some (.cells #[v0, v1] t)) : w.cell? ⟨N, 0, none⟩ = some v0 ∧ w.cell? ⟨N, 1, none⟩ = some v1 := by
  simp [World.cell?, h]
/-- What a method of a node that only looks answers. -/
def Obs (w : World) (ty : TypeId) (v : Value) (name : String) (ans : Value) : Prop :=
  (∀ w, (nilAhead 259 ty v name).run Try.prog w = .ok (some false) w) ∧ ∃ f r, (∀ w, (method 259 ty v name).run Try.prog w = .ok (f, r) w) ∧ (∀ w, (callFunc f #[r]).run Try.prog w = .ok (.enter f #[r]) w) ∧ Calls Try.prog f #[r] w fun e w' => e = .returned ans ∧ w' = w
structure GObj (w : World) (t : T) (ty : TypeId) (v : Value) : Prop where
  size : Obs w ty v "loop.example/s02098/impl.size" (.int .i64 t.size)
  where' : Obs w ty v "loop.example/s02098/impl.where" (.int .i64 t.page)
  height : Obs w ty v "loop.example/s02098/impl.height" (.int .i64 t.ht)
  least : 0 < t.size → Obs w ty v "loop.example/s02098/impl.least" (.string t.low)
theorem leafSize_g {w : World} {P : Nat → Prop} {t : T} {L : Nat} {a : Option Addr} {n c : Nat} (h : GLeaf w P t L a n c) : Calls Try.prog 103 #[.pointer (some ⟨L, 0, none⟩)] w fun e w' => e = .returned (.int .i64 n) ∧ w' = w := by
  obtain ⟨c0, c1⟩ := box_twoG h.box
  have hlt : L < w.heap.size := (Array.getElem?_eq_some_iff.1 h.box).1
  clear h
  go_enter Try.func103, Try.ntmps103
  go_wp2
  go_ret
  exact ⟨rfl, rfl⟩
theorem innerSize_g {w : World} {L : Nat} {p : Int} {a : Option Addr} {n c : Nat} (h : w.heap[L]? = some (.cells #[.int .i64 p, .slice a n c] 101)) : Calls Try.prog 118 #[.pointer (some ⟨L, 0, none⟩)] w fun e w' => e = .returned (.int .i64 n) ∧ w' = w := by
  obtain ⟨c0, c1⟩ := box_twoG h
  have hlt : L < w.heap.size := (Array.getElem?_eq_some_iff.1 h).1
  clear h
  go_enter Try.func118, Try.ntmps118
  go_wp2
  go_ret
  exact ⟨rfl, rfl⟩
theorem where_g {w : World} {L : Nat} {p : Int} (h : w.cell? ⟨L, 0, none⟩ = some (.int .i64 p)) : Calls Try.prog 107 #[.pointer (some ⟨L, 0, none⟩)] w fun e w' => e = .returned (.int .i64 p) ∧ w' = w := by
  have hlt : L < w.heap.size := by
    rcases Nat.lt_or_ge L w.heap.size with h1 | h1
    · exact h1
    · simp [World.cell?, Array.getElem?_eq_none h1] at h
  go_enter Try.func107, Try.ntmps107
  go_wp2
  go_ret
  exact ⟨rfl, rfl⟩
theorem leafHeight_g (w : World) (L : Nat) : Calls Try.prog 100 #[.pointer (some ⟨L, 0, none⟩)] w fun e w' => e = .returned (.int .i64 0) ∧ w' = w := by
  go_enter Try.func100, Try.ntmps100
  go_wp2
  go_ret
  exact ⟨rfl, rfl⟩
theorem leafLeast_g {w : World} {P : Nat → Prop} {t : T} {L : Nat} {a : Option Addr} {n c : Nat} (h : GLeaf w P t L a n c) (hn : 0 < n) : Calls Try.prog 101 #[.pointer (some ⟨L, 0, none⟩)] w fun e w' => e = .returned (.string (t.keys.headD ByteArray.empty)) ∧ w' = w := by
  obtain ⟨c0, c1⟩ := box_twoG h.box
  have hlt : L < w.heap.size := (Array.getElem?_eq_some_iff.1 h.box).1
  obtain ⟨b, rfl, hb, hc⟩ := h.row.2.2.2 hn
  have d0 : w.cell? ⟨b, 0, none⟩ = some (.string (t.keys.headD ByteArray.empty)) := by
    rw [hc 0 (by omega)]
    have h1 := h.row.1
    have h2 := h.len
    cases hk : t.keys with
    | nil => rw [hk] at h2; simp at h2; omega
    | cons x r =>
      cases hz : t.vals.zip t.over with
      | nil => rw [hz] at h1; simp at h1; omega
      | cons q r2 => simp [rowsOf, slCells]
  have hbl : b < w.heap.size := by
    rcases Nat.lt_or_ge b w.heap.size with h1 | h1
    · exact h1
    · simp [World.cell?, Array.getElem?_eq_none h1] at d0
  have hnm : 0 < n := hn
  clear h hc hn
  generalize t.keys.headD ByteArray.empty = s at *
  go_enter Try.func101, Try.ntmps101
  go_wp2
  go_ret
  exact ⟨rfl, rfl⟩
theorem lt_of_cellG {w : World} {b o : Nat} {v : Value} (h : w.cell? ⟨b, o, none⟩ = some v) : b < w.heap.size := by
  rcases Nat.lt_or_ge b w.heap.size with h1 | h1
  · exact h1
  · simp [World.cell?, Array.getElem?_eq_none h1] at h
theorem innerLeast_g {w : World} {P : Nat → Prop} {t : T} {L : Nat} {a : Option Addr} {n c : Nat} {us : Nat → Value} (h : GInner w P t L a n c us) (hn : 0 < n) {ty : TypeId} {v : Value} (hu : us 0 = .iface ty v) {s : ByteArray} (ho : Obs w ty v "loop.example/s02098/impl.least" (.string s)) : Calls Try.prog 116 #[.pointer (some ⟨L, 0, none⟩)] w fun e w' => e = .returned (.string s) ∧ w' = w := by
  obtain ⟨c0, c1⟩ := box_twoG h.box
  have hlt : L < w.heap.size := (Array.getElem?_eq_some_iff.1 h.box).1
  obtain ⟨b, rfl, hb, hc⟩ := h.row hn
  have d0 := hc 0 hn
  rw [hu] at d0
  have hbl := lt_of_cellG d0
  obtain ⟨ha, f, r, hm, hcf, hcall⟩ := ho
  clear h hc hu
  go_enter Try.func116, Try.ntmps116
  go_wp2_with fail
  refine hcall.mono ?_
  rintro e w' ⟨rfl, rfl⟩
  go_wp2_with fail
  go_ret
  exact ⟨rfl, rfl⟩
theorem innerHeight_g {w : World} {P : Nat → Prop} {t : T} {L : Nat} {a : Option Addr} {n c : Nat} {us : Nat → Value} (h : GInner w P t L a n c us) (hn : 0 < n) {ty : TypeId} {v : Value} (hu : us 0 = .iface ty v) {s : Int} (hs : 0 ≤ s ∧ s < 1000000) (ho : Obs w ty v "loop.example/s02098/impl.height" (.int .i64 s)) : Calls Try.prog 115 #[.pointer (some ⟨L, 0, none⟩)] w fun e w' => e = .returned (.int .i64 (s + 1)) ∧ w' = w := by
  obtain ⟨c0, c1⟩ := box_twoG h.box
  have hlt : L < w.heap.size := (Array.getElem?_eq_some_iff.1 h.box).1
  obtain ⟨b, rfl, hb, hc⟩ := h.row hn
  have d0 := hc 0 hn
  rw [hu] at d0
  have hbl := lt_of_cellG d0
  obtain ⟨ha, f, r, hm, hcf, hcall⟩ := ho
  clear h hc hu
  go_enter Try.func115, Try.ntmps115
  go_wp2_with fail
  refine hcall.mono ?_
  rintro e w' ⟨rfl, rfl⟩
  go_wp2_with fail
  go_ret
  exact ⟨rfl, rfl⟩
theorem goodG_kid {t k : T} {r : Bool} (h : t.good r = true) (hk : k ∈ t.kids) : k.good false = true := by
  rw [T.good_eq] at h
  simp only [Bool.and_eq_true] at h
  exact List.all_eq_true.1 h.1.2 (k.good false) (List.mem_map.2 ⟨k, hk, rfl⟩)
theorem nodesG_kid {t k : T} (h : k ∈ t.kids) : k.nodes < t.nodes := by
  rw [T.nodes_eq t]
  have : ∀ (l : List T), k ∈ l → k.nodes ≤ (l.map T.nodes).sum := by
    intro l
    induction l with
    | nil => intro h; cases h
    | cons a r ih =>
      intro h
      rcases List.mem_cons.1 h with rfl | h
      · simp
      · have := ih h; simp; omega
  have := this _ h
  omega
theorem htG_le (t : T) : t.ht < t.nodes := by
  induction t using T.ind with
  | h t ih =>
    rw [T.ht_eq]
    split
    · rw [T.nodes_eq]; omega
    · cases hk : t.kids with
      | nil => rw [T.nodes_eq, hk]; simp [T.htOf]
      | cons k r =>
        have h1 := ih k (by rw [hk]; exact List.mem_cons_self ..)
        have h2 := nodesG_kid (t := t) (k := k) (by rw [hk]; exact List.mem_cons_self ..)
        simp only [List.map_cons]
        have e2 : T.htOf (k.ht :: r.map T.ht) = (if k.ht < 0 then (-1 : Int) else if (r.map T.ht).all (fun x => x == k.ht) then k.ht + 1 else -1) := rfl
        rw [e2]
        split
        · omega
        · split <;> omega
theorem ht_first {t k : T} {r : List T} (hl : t.leaf = false) (hk : t.kids = k :: r) (h : 0 ≤ t.ht) : t.ht = k.ht + 1 ∧ ∀ q ∈ t.kids, 0 ≤ q.ht ∧ q.ht = k.ht := by
  rw [T.ht_eq, if_neg (by simp [hl]), hk, List.map_cons] at h ⊢
  obtain ⟨i1, i2⟩ := htOf_inv h
  refine ⟨htOf_all i1 i2, fun q hq => ?_⟩
  rcases List.mem_cons.1 hq with rfl | hq
  · exact ⟨i1, rfl⟩
  · have := i2 q.ht (List.mem_map_of_mem hq)
    omega
theorem GIs.shape {w : World} {P : Nat → Prop} {t : T} {u : Value} (h : GIs w P t u) : ∃ ty v, u = .iface ty v := by
  cases hl : t.leaf
  · obtain ⟨L, a, n, c, us, rfl, _⟩ := h.inner hl
    exact ⟨_, _, rfl⟩
  · obtain ⟨L, a, n, c, rfl, _⟩ := h.leaf hl
    exact ⟨_, _, rfl⟩
/-- What a node answers when it is only looked at. -/
theorem GIs.obj {w : World} {P : Nat → Prop} : ∀ (t : T) (ty : TypeId) (v : Value), t.nodes ≤ 100000 → (∃ r, t.good r = true) → 0 ≤ t.ht → GIs w P t (.iface ty v) → GObj w t ty v := by
  intro t
  induction t using T.ind with
  | h t ih =>
    rintro ty v hn ⟨r, hg⟩ hh h
    cases hl : t.leaf
    · obtain ⟨L, a, n, c, us, e, hG⟩ := h.inner hl
      cases e
      have hsz : t.size = n := by rw [hG.len.1]; simp [T.size, hl]
      have h2 : 0 < n := by
        rw [T.good_eq] at hg
        simp only [Bool.and_eq_true, decide_eq_true_eq, hl, Bool.and_false, hsz] at hg
        have := hg.1.1.1.1.1
        simp at this
        omega
      obtain ⟨k, ks, hk⟩ : ∃ k ks, t.kids = k :: ks := List.exists_cons_of_ne_nil (by intro e; have := hG.len.1; rw [e] at this; simp at this; omega)
      have hkm : k ∈ t.kids := by rw [hk]; exact List.mem_cons_self ..
      have hK := hG.kid 0 k hkm (by rw [hk]; rfl)
      obtain ⟨ty', v', hu⟩ := hK.shape
      rw [hu] at hK
      obtain ⟨f1, f2⟩ := ht_first hl hk hh
      have hlt := nodesG_kid hkm
      have hO := ih k hkm ty' v' (by omega) ⟨false, goodG_kid hg hkm⟩ (f2 k hkm).1 hK
      have hks : 0 < k.size := by
        have h9 := goodG_kid hg hkm
        rw [T.good_eq] at h9
        simp only [Bool.and_eq_true, decide_eq_true_eq] at h9
        have := h9.1.1.1.1.1
        simp at this
        omega
      refine ⟨⟨fun w => by kernel_rfl, 118, .pointer (some ⟨L, 0, none⟩), fun w => by kernel_rfl, fun w => by kernel_rfl, ?_⟩, ⟨fun w => by kernel_rfl, 107, .pointer (some ⟨L, 0, none⟩), fun w => by kernel_rfl, fun w => by kernel_rfl, ?_⟩, ⟨fun w => by kernel_rfl, 115, .pointer (some ⟨L, 0, none⟩), fun w => by kernel_rfl, fun w => by kernel_rfl, ?_⟩, fun _ => ⟨fun w => by kernel_rfl, 116, .pointer (some ⟨L, 0, none⟩), fun w => by kernel_rfl, fun w => by kernel_rfl, ?_⟩⟩
      · rw [hsz]; exact innerSize_g hG.box
      · exact where_g (box_twoG hG.box).1
      · rw [f1]
        exact innerHeight_g hG h2 hu ⟨(f2 k hkm).1, by have := htG_le k; omega⟩ hO.height
      · rw [T.low_inner hl hk]
        exact innerLeast_g hG h2 hu (hO.least hks)
    · obtain ⟨L, a, n, c, e, hG⟩ := h.leaf hl
      cases e
      have hsz : t.size = n := by rw [hG.len]; simp [T.size, hl]
      refine ⟨⟨fun w => by kernel_rfl, 103, .pointer (some ⟨L, 0, none⟩), fun w => by kernel_rfl, fun w => by kernel_rfl, ?_⟩, ⟨fun w => by kernel_rfl, 107, .pointer (some ⟨L, 0, none⟩), fun w => by kernel_rfl, fun w => by kernel_rfl, ?_⟩, ⟨fun w => by kernel_rfl, 100, .pointer (some ⟨L, 0, none⟩), fun w => by kernel_rfl, fun w => by kernel_rfl, ?_⟩, fun h0 => ⟨fun w => by kernel_rfl, 101, .pointer (some ⟨L, 0, none⟩), fun w => by kernel_rfl, fun w => by kernel_rfl, ?_⟩⟩
      · rw [hsz]; exact leafSize_g hG
      · exact where_g (box_twoG hG.box).1
      · rw [T.ht_eq, if_pos hl]; exact leafHeight_g w L
      · rw [T.low_leaf hl]; exact leafLeast_g hG (by omega)
end Go.Proofs.Ytpmagndofiaooaa
