import Derived.Test.YtcmhobbpeaeebaaGAD
import Derived.Test.YtcmhobbpeaeebaaGAE
namespace Go.Proofs.Ytcmhobbpeaeebaa
open Go.RowKit
set_option linter.unusedVariables false
set_option maxRecDepth 100000

/-- A page that was drawn: its value, and that it fits. -/
def DPg (w : World) (S m : Nat) (Φ : Pg → Prop) (v : Value) : Prop :=
  ∃ (p : Pg) (ka : Option Addr) (kc : Nat) (ea : Option Addr) (ec : Nat), v = .agg #[.int .i64 p.kind, .int .i64 p.tx, .int .i64 p.id, .int .i64 p.root, .int .i64 p.count, .slice ka p.ks.length kc, .slice ea p.es.length ec, .int .i64 p.next, .string p.data] ∧ PgFit p ∧ p.ks.length ≤ m ∧ p.es.length ≤ m ∧ (∀ x ∈ p.ks, kidFit x) ∧ (∀ x ∈ p.es, entFit x) ∧ w.ownsRow S 100 2 (.slice ka p.ks.length kc) p.ks.length (rowsOf kidCells p.ks) ∧ w.ownsRow S 102 4 (.slice ea p.es.length ec) p.es.length (rowsOf entCells p.es) ∧ (∀ g, (Value.slice ka p.ks.length kc).ownBlock = some g → (Value.slice ea p.es.length ec).ownBlock = some g → False) ∧ Φ p
theorem none_ownD (n c : Nat) (g : Nat) : (Value.slice none n c).ownBlock = some g → False := by intro h; simp [Value.ownBlock] at h
/-- The state inside l2DrawPage: the result's block, p's block, the cursor. -/
structure PSt (w X : World) (C A B P : Nat) (cs : Array Value) : Prop where
  res : X.heap[w.heap.size]? = some (.cells #[.int .i64 0, .int .i64 0, .int .i64 0, .int .i64 0, .int .i64 0, .slice none 0 0, .slice none 0 0, .int .i64 0, .string ⟨#[]⟩] 28)
  page : X.heap[P]? = some (.cells cs 28)
  cur : DCur X C A B
  fr : Fr (fun g => g = C) w X
  low : w.heap.size < P
  old : C < w.heap.size
theorem PSt.call {w X X' : World} {C A B P : Nat} {cs : Array Value} (h : PSt w X C A B P cs) (hD : DCur X' C A B) (hF : Fr (fun g => g = C) X X') : PSt w X' C A B P cs :=
  ⟨(hF.block _ (Array.getElem?_eq_some_iff.1 h.res).1 (by have := h.old; omega)).trans h.res, (hF.block _ (Array.getElem?_eq_some_iff.1 h.page).1 (by have := h.old; have := h.low; omega)).trans h.page, hD, h.fr.trans hF, h.low, h.old⟩
theorem PSt.bel {w X X' : World} {C A B P : Nat} {cs : Array Value} (h : PSt w X C A B P cs) (hb : Below X.heap.size X X') : PSt w X' C A B P cs := h.call (h.cur.below hb) (Fr.of_below hb)
theorem PSt.frg {w X X' : World} {C A B P : Nat} {cs : Array Value} {S : Nat → Prop} (h : PSt w X C A B P cs) (hf : Fr S X X') (hS : ∀ g, S g → w.heap.size < g ∧ g ≠ P) : PSt w X' C A B P cs :=
  ⟨(hf.block _ (Array.getElem?_eq_some_iff.1 h.res).1 (fun e => by have := hS _ e; omega)).trans h.res, (hf.block _ (Array.getElem?_eq_some_iff.1 h.page).1 (fun e => (hS _ e).2 rfl)).trans h.page, h.cur.frg hf (fun g e => by have := hS g e; have := h.old; omega), h.fr.up2 hf (fun g e => by have := hS g e; omega), h.low, h.old⟩
theorem PSt.set {w X : World} {C A B P : Nat} {cs cs' : Array Value} (h : PSt w X C A B P cs) (i : Nat) (u : Value) (hp : (X.setCell ⟨P, i, none⟩ u).heap[P]? = some (.cells cs' 28)) : PSt w (X.setCell ⟨P, i, none⟩ u) C A B P cs' := by
  have hf := setD_fr X P i u
  have hlow := h.low
  have hold := h.old
  exact ⟨(hf.block _ (Array.getElem?_eq_some_iff.1 h.res).1 (by omega)).trans h.res, hp, h.cur.frg hf (fun g e => by omega), h.fr.up2 hf (fun g e => by omega), h.low, h.old⟩
def put9D (w : World) (N : Nat) (u0 u1 u2 u3 u4 u5 u6 u7 u8 : Value) : World :=
  ((((((((w.setCell ⟨N, 0, none⟩ u0).setCell ⟨N, 1, none⟩ u1).setCell ⟨N, 2, none⟩ u2).setCell ⟨N, 3, none⟩ u3).setCell ⟨N, 4, none⟩ u4).setCell ⟨N, 5, none⟩ u5).setCell ⟨N, 6, none⟩ u6).setCell ⟨N, 7, none⟩ u7).setCell ⟨N, 8, none⟩ u8
theorem put9D_box {w : World} {N t : Nat} {v0 v1 v2 v3 v4 v5 v6 v7 v8 : Value} (h : w.heap[N]? = some (.cells #[v0, v1, v2, v3, v4, v5, v6, v7, v8] t)) (u0 u1 u2 u3 u4 u5 u6 u7 u8 : Value) : (put9D w N u0 u1 u2 u3 u4 u5 u6 u7 u8).heap[N]? = some (.cells #[u0, u1, u2, u3, u4, u5, u6, u7, u8] t) := by
  simp [put9D, World.setCell, Array.getElem?_modify, h]
theorem put9D_fr (w : World) (N : Nat) (u0 u1 u2 u3 u4 u5 u6 u7 u8 : Value) : Fr (fun x => x = N) w (put9D w N u0 u1 u2 u3 u4 u5 u6 u7 u8) :=
  ((((((((setD_fr _ _ _ _).trans (setD_fr _ _ _ _)).trans (setD_fr _ _ _ _)).trans (setD_fr _ _ _ _)).trans (setD_fr _ _ _ _)).trans (setD_fr _ _ _ _)).trans (setD_fr _ _ _ _)).trans (setD_fr _ _ _ _)).trans (setD_fr _ _ _ _)
theorem info_KidD : (Try.prog.info? 100).map (fun i => (i.zero, i.size, i.bytes)) = some (some (.agg #[.string ⟨#[]⟩, .int .i64 0]), 2, 24) := by kernel_rfl
/-- append(v, kid). -/
theorem wpList_kidD {w : World} {ops : Array Oper} {rest : List Oper} {o : Oper} {a : Act} {Q : Exit → Act → World → Prop} (hgd : o.guard = none) (s x : Operand)
    (ho : o.op = .call { callee := .builtin .append, args := #[s, x], argTypes := #[25, 25] })
    (base : Nat) (v : Value) (n : Nat) (xs : List Value) (hs : a.eval s = v) (hown : w.ownsRow base 100 2 v n xs)
    (g : Nat) (u1 : ByteArray) (u2 : Int) (hx : a.eval x = .slice (some ⟨g, 0, none⟩) 1 1) (hg : w.heap[g]? = some (.cells #[.string u1, .int .i64 u2] 100)) (hn : n ≤ 1000000) (hbase : base ≤ w.heap.size)
    (h : ∀ v' w', w'.ownsRow base 100 2 v' (n + 1) (xs ++ kidCells (u1, u2)) → w.grownBy w' v.ownBlock → (v'.ownBlock = v.ownBlock ∨ ∀ g, v'.ownBlock = some g → w.heap.size ≤ g) → wpList Try.prog ops Q rest (a.put o.dst v') w') : wpList Try.prog ops Q (o :: rest) a w := by
  obtain ⟨i0, hi, hz0, hz1, hz2⟩ := info_parts info_KidD
  refine wpList_append_ownD w hgd s x 25 ho base 100 i0 _ 2 24 Try.underlying25 hi hz0 hz1 hz2 rfl (by decide) v n xs hs hown ⟨g, 0, none⟩ 1 1 (kidCells (u1, u2)) hx rfl ?_ ?_ (by unfold maxLen; omega) (by omega) hbase h
  · intro j u hj
    have e : (⟨g, 0, none⟩ : Addr).add j = ⟨g, j, none⟩ := by simp [Addr.add]; omega
    rw [e]
    rcases j with _ | _ | j
    all_goals first
      | (simp [kidCells] at hj; done)
      | (simp [kidCells] at hj; subst hj; simp [World.cell?, hg])
  · intro u hu; simp [kidCells] at hu; rcases hu with rfl | rfl <;> rfl
theorem rowsOf_snoc {α : Type} (f : α → List Value) (l : List α) (x : α) : rowsOf f (l ++ [x]) = rowsOf f l ++ f x := by simp [rowsOf]
theorem info_EntD : (Try.prog.info? 102).map (fun i => (i.zero, i.size, i.bytes)) = some (some (.agg #[.string ⟨#[]⟩, .string ⟨#[]⟩, .int .i64 0, .int .i64 0]), 4, 48) := by kernel_rfl
/-- append(v, entry). -/
theorem wpList_entD {w : World} {ops : Array Oper} {rest : List Oper} {o : Oper} {a : Act} {Q : Exit → Act → World → Prop} (hgd : o.guard = none) (s x : Operand)
    (ho : o.op = .call { callee := .builtin .append, args := #[s, x], argTypes := #[26, 26] })
    (base : Nat) (v : Value) (n : Nat) (xs : List Value) (hs : a.eval s = v) (hown : w.ownsRow base 102 4 v n xs)
    (g : Nat) (pe : PE) (hx : a.eval x = .slice (some ⟨g, 0, none⟩) 1 1) (hg : w.heap[g]? = some (.cells #[.string pe.1, .string pe.2.1, .int .i64 pe.2.2.1, .int .i64 pe.2.2.2] 102)) (hn : n ≤ 1000000) (hbase : base ≤ w.heap.size)
    (h : ∀ v' w', w'.ownsRow base 102 4 v' (n + 1) (xs ++ entCells pe) → w.grownBy w' v.ownBlock → (v'.ownBlock = v.ownBlock ∨ ∀ g, v'.ownBlock = some g → w.heap.size ≤ g) → wpList Try.prog ops Q rest (a.put o.dst v') w') : wpList Try.prog ops Q (o :: rest) a w := by
  obtain ⟨i0, hi, hz0, hz1, hz2⟩ := info_parts info_EntD
  refine wpList_append_ownD w hgd s x 26 ho base 102 i0 _ 4 48 Try.underlying26 hi hz0 hz1 hz2 rfl (by decide) v n xs hs hown ⟨g, 0, none⟩ 1 1 (entCells pe) hx rfl ?_ ?_ (by unfold maxLen; omega) (by omega) hbase h
  · intro j u hj
    have e : (⟨g, 0, none⟩ : Addr).add j = ⟨g, j, none⟩ := by simp [Addr.add]; omega
    rw [e]
    rcases j with _ | _ | _ | _ | j
    all_goals first
      | (simp [entCells] at hj; done)
      | (simp [entCells] at hj; subst hj; simp [World.cell?, hg])
  · intro u hu; simp [entCells] at hu; rcases hu with rfl | rfl | rfl | rfl <;> rfl
theorem box_page {w : World} {N : Nat} {v0 v1 v2 v3 v4 v5 v6 v7 v8 : Value} {t : TypeId} (h : w.heap[N]? = some (.cells #[v0, v1, v2, v3, v4, v5, v6, v7, v8] t)) : w.cell? ⟨N, 0, none⟩ = some v0 ∧ w.cell? ⟨N, 1, none⟩ = some v1 ∧ w.cell? ⟨N, 2, none⟩ = some v2 ∧ w.cell? ⟨N, 3, none⟩ = some v3 ∧ w.cell? ⟨N, 4, none⟩ = some v4 ∧ w.cell? ⟨N, 5, none⟩ = some v5 ∧ w.cell? ⟨N, 6, none⟩ = some v6 ∧ w.cell? ⟨N, 7, none⟩ = some v7 ∧ w.cell? ⟨N, 8, none⟩ = some v8 := by
  refine ⟨?_, ?_, ?_, ?_, ?_, ?_, ?_, ?_, ?_⟩ <;> simp [World.cell?, h]
theorem box_kid {w : World} {N : Nat} {v0 v1 : Value} {t : TypeId} (h : w.heap[N]? = some (.cells #[v0, v1] t)) : w.cell? ⟨N, 0, none⟩ = some v0 ∧ w.cell? ⟨N, 1, none⟩ = some v1 := by
  simp [World.cell?, h]
/-- What is drawn is a good body. -/
def KOk (low last : Int) (ss : List ByteArray) (l : List PK) : Prop := ∀ i, i < l.length → (l.getD i dK).1 = (if i = 0 then ⟨#[]⟩ else ss.getD i ⟨#[]⟩) ∧ low ≤ (l.getD i dK).2 ∧ (l.getD i dK).2 ≤ last
def EOk (low last : Int) (ss : List ByteArray) (l : List PE) : Prop := ∀ i, i < l.length → (l.getD i dE).1 = ss.getD i ⟨#[]⟩ ∧ (shortB (l.getD i dE) || longB low last (l.getD i dE)) = true
theorem KOk.snoc {low last : Int} {ss : List ByteArray} {l : List PK} (h : KOk low last ss l) (x : PK) (h1 : x.1 = (if l.length = 0 then ⟨#[]⟩ else ss.getD l.length ⟨#[]⟩)) (h2 : low ≤ x.2 ∧ x.2 ≤ last) : KOk low last ss (l ++ [x]) := by
  intro i hi
  rw [List.length_append, List.length_singleton] at hi
  rw [getD_snocD]
  by_cases hl : i < l.length
  · rw [if_pos hl]; exact h i hl
  · have e : i = l.length := by omega
    rw [if_neg hl, if_pos e, e]; exact ⟨h1, h2⟩
theorem EOk.snoc {low last : Int} {ss : List ByteArray} {l : List PE} (h : EOk low last ss l) (x : PE) (h1 : x.1 = ss.getD l.length ⟨#[]⟩) (h2 : (shortB x || longB low last x) = true) : EOk low last ss (l ++ [x]) := by
  intro i hi
  rw [List.length_append, List.length_singleton] at hi
  rw [getD_snocD]
  by_cases hl : i < l.length
  · rw [if_pos hl]; exact h i hl
  · have e : i = l.length := by omega
    rw [if_neg hl, if_pos e, e]; exact ⟨h1, h2⟩
theorem kids_good {low last tx : Int} {ss : List ByteArray} {l : List PK} (ha : Asc 12 ss) (h : KOk low last ss l) (hl : l.length = ss.length) (h2 : 2 ≤ l.length) (h4 : l.length ≤ 4) : bodyOk low last ⟨2, tx, 0, 0, 0, l, [], 0, ⟨#[]⟩⟩ = true := by
  have h0 := (h 0 (by omega)).1
  have hk : kidsOk low last l = true := by
    rw [kidsOk, List.all_eq_true]
    intro i hi
    rw [List.mem_range] at hi
    have a := ha.key (Nat.le_refl _) ⟨#[]⟩ i (by omega)
    have b := h i hi
    have c : inB low last (l.getD i dK).2 = true := decide_eq_true b.2
    rw [kidOk, c]
    by_cases hi0 : i = 0
    · subst hi0; rfl
    · have e1 : (l.getD i dK).1 = ss.getD i ⟨#[]⟩ := by rw [b.1, if_neg hi0]
      have e2 : geB (l.getD (i - 1) dK).1 (l.getD i dK).1 = false := by
        rw [e1, (h (i - 1) (by omega)).1]
        by_cases h1 : i - 1 = 0
        · rw [if_pos h1]; exact a.2.1
        · rw [if_neg h1]
          have := (ha.key (Nat.le_refl _) ⟨#[]⟩ (i - 1) (by omega)).2.2 (by omega)
          rw [Nat.sub_add_cancel (by omega)] at this
          exact this
      rw [e2, e1, a.1]
      simp
  have h0' : (l.getD 0 dK).1 = ⟨#[]⟩ := by rw [h0]; rfl
  simp only [bodyOk, branchOk, noMeta, hk, h0']
  simp [ByteArray.toList_eq]
  omega
theorem ents_good {low last tx : Int} {ss : List ByteArray} {l : List PE} (ha : Asc 12 ss) (h : EOk low last ss l) (hl : l.length = ss.length) (h4 : l.length ≤ 4) : bodyOk low last ⟨3, tx, 0, 0, 0, [], l, 0, ⟨#[]⟩⟩ = true := by
  have hk : entsOk low last l = true := by
    rw [entsOk, List.all_eq_true]
    intro i hi
    rw [List.mem_range] at hi
    have a := ha.key (Nat.le_refl _) ⟨#[]⟩ i (by omega)
    have b := h i hi
    rw [entOk, b.2, b.1, a.1]
    by_cases hi0 : i = 0
    · subst hi0; rfl
    · have e2 : geB (l.getD (i - 1) dE).1 (ss.getD i ⟨#[]⟩) = false := by
        rw [(h (i - 1) (by omega)).1]
        have := (ha.key (Nat.le_refl _) ⟨#[]⟩ (i - 1) (by omega)).2.2 (by omega)
        rw [Nat.sub_add_cancel (by omega)] at this
        exact this
      rw [e2]
      simp
  simp only [bodyOk, leafOk, noMeta, hk]
  simp [ByteArray.toList_eq]
  omega
theorem key_size {s : ByteArray} (h : keyB s = true) : s.size ≤ 8 := by
  simp [keyB] at h; omega
set_option maxHeartbeats 3200000 in
theorem l2DrawPage_any (C A B : Nat) (w : World) (h : DCur w C A B) (low last tx : Nat) (hl : low ≤ 2) (hl2 : 300 ≤ last ∧ last ≤ 1000) (htx : tx ≤ 2000000000) :
    Calls Try.prog 35 #[.pointer (some ⟨C, 0, none⟩), .int .i64 low, .int .i64 last, .int .i64 tx] w fun e w' => ∃ v, e = .returned v ∧ DPg w' w.heap.size 20 (fun p => p.tx = (tx : Int) ∧ bodyOk (low : Int) (last : Int) p = true) v ∧ DCur w' C A B ∧ Fr (fun g => g = C) w w' := by
  have hCw := h.lt
  go_enter Try.func35, Try.ntmps35
  go_wp2_with fail
  have hb0 : Below w.heap.size w (w.alloc (.cells #[.int .i64 0, .int .i64 0, .int .i64 0, .int .i64 0, .int .i64 0, .slice none 0 0, .slice none 0 0, .int .i64 0, .string ⟨#[]⟩] 28)) := (Below.refl _ _).alloc (Nat.le_refl _) _
  have HR0 := heap_alloc_new w (.cells #[.int .i64 0, .int .i64 0, .int .i64 0, .int .i64 0, .int .i64 0, .slice none 0 0, .slice none 0 0, .int .i64 0, .string ⟨#[]⟩] 28)
  have hD0 := h.below hb0
  have hF0 : Fr (fun g => g = C) w (w.alloc (.cells #[.int .i64 0, .int .i64 0, .int .i64 0, .int .i64 0, .int .i64 0, .slice none 0 0, .slice none 0 0, .int .i64 0, .string ⟨#[]⟩] 28)) := Fr.of_below hb0
  generalize w.alloc (.cells #[.int .i64 0, .int .i64 0, .int .i64 0, .int .i64 0, .int .i64 0, .slice none 0 0, .slice none 0 0, .int .i64 0, .string ⟨#[]⟩] 28) = W0 at hb0 HR0 hD0 hF0 ⊢
  refine (l1Below_any C A B W0 hD0 4 (by omega) (by omega)).mono ?_
  rintro e w1 ⟨k, rfl, hk, hD1, hF1⟩
  have HR1 := (hF1.block w.heap.size (Array.getElem?_eq_some_iff.1 HR0).1 (by omega)).trans HR0
  have hFw1 := hF0.trans hF1
  have hR1l := (Array.getElem?_eq_some_iff.1 HR1).1
  clear hb0 HR0 hD0 hF0 hF1 h
  go_wp2_with fail
  have hal : Below w1.heap.size w1 (w1.alloc (.cells #[.int .i64 (1 + (k : Int)), .int .i64 (tx : Int), .int .i64 0, .int .i64 0, .int .i64 0, .slice none 0 0, .slice none 0 0, .int .i64 0, .string ⟨#[]⟩] 28)) := (Below.refl _ _).alloc (Nat.le_refl _) _
  have HP2 := heap_alloc_new w1 (.cells #[.int .i64 (1 + (k : Int)), .int .i64 (tx : Int), .int .i64 0, .int .i64 0, .int .i64 0, .slice none 0 0, .slice none 0 0, .int .i64 0, .string ⟨#[]⟩] 28)
  generalize w1.alloc (.cells #[.int .i64 (1 + (k : Int)), .int .i64 (tx : Int), .int .i64 0, .int .i64 0, .int .i64 0, .slice none 0 0, .slice none 0 0, .int .i64 0, .string ⟨#[]⟩] 28) = w2 at hal HP2 ⊢
  have st2 : PSt w w2 C A B w1.heap.size #[.int .i64 (1 + (k : Int)), .int .i64 (tx : Int), .int .i64 0, .int .i64 0, .int .i64 0, .slice none 0 0, .slice none 0 0, .int .i64 0, .string ⟨#[]⟩] := ⟨(hal.block _ hR1l).trans HR1, HP2, hD1.below hal, hFw1.trans (Fr.of_below hal), hR1l, hCw⟩
  clear hal HP2 HR1 hFw1 hR1l hD1
  generalize w1.heap.size = P at st2 ⊢
  refine (l1Below_any C A B w2 st2.cur 5 (by omega) (by omega)).mono ?_
  rintro e w3 ⟨n, rfl, hn, hD3, hF3⟩
  have st3 := st2.call hD3 hF3
  clear st2 hD3 hF3
  have hk4 : k = 0 ∨ k = 1 ∨ k = 2 ∨ k = 3 := by omega
  rcases hk4 with rfl | rfl | rfl | rfl
  · have st3 : PSt w w3 C A B P #[.int .i64 1, .int .i64 (tx : Int), .int .i64 0, .int .i64 0, .int .i64 0, .slice none 0 0, .slice none 0 0, .int .i64 0, .string ⟨#[]⟩] := st3
    obtain ⟨p0, p1, p2, p3, p4, p5, p6, p7, p8⟩ := box_page st3.page
    have fp := box_thaw st3.page
    go_wp2_with fail
    refine (l1Below_any C A B w3 st3.cur 60000 (by omega) (by omega)).mono ?_
    rintro e w4 ⟨x, rfl, hx, hD4, hF4⟩
    have st4 := st3.call hD4 hF4
    clear st3 hD4 hF4 p0 p1 p2 p3 p4 p5 p6 p7 p8 fp
    obtain ⟨p0, p1, p2, p3, p4, p5, p6, p7, p8⟩ := box_page st4.page
    have fp := box_thaw st4.page
    go_wp2_with fail
    have hq : (w4.setCell ⟨P, 2, none⟩ (.int .i64 (1 + (x : Int)))).heap[P]? = some (.cells #[.int .i64 1, .int .i64 (tx : Int), .int .i64 (1 + (x : Int)), .int .i64 0, .int .i64 0, .slice none 0 0, .slice none 0 0, .int .i64 0, .string ⟨#[]⟩] 28) := by simp [World.setCell, Array.getElem?_modify, st4.page]
    have st5 := st4.set 2 (.int .i64 (1 + (x : Int))) hq
    generalize w4.setCell ⟨P, 2, none⟩ (.int .i64 (1 + (x : Int))) = w5 at st5 ⊢
    clear hq st4
    clear p0 p1 p2 p3 p4 p5 p6 p7 p8 fp
    refine (l2DrawNum_any C A B w5 st5.cur low last hl hl2).mono ?_
    rintro e w6 ⟨y, rfl, hyl, hy, hD6, hF6⟩
    have st6 := st5.call hD6 hF6
    clear st5 hD6 hF6
    obtain ⟨p0, p1, p2, p3, p4, p5, p6, p7, p8⟩ := box_page st6.page
    have fp := box_thaw st6.page
    go_wp2_with fail
    have hq : (w6.setCell ⟨P, 3, none⟩ (.int .i64 (y : Int))).heap[P]? = some (.cells #[.int .i64 1, .int .i64 (tx : Int), .int .i64 (1 + (x : Int)), .int .i64 (y : Int), .int .i64 0, .slice none 0 0, .slice none 0 0, .int .i64 0, .string ⟨#[]⟩] 28) := by simp [World.setCell, Array.getElem?_modify, st6.page]
    have st7 := st6.set 3 (.int .i64 (y : Int)) hq
    generalize w6.setCell ⟨P, 3, none⟩ (.int .i64 (y : Int)) = w7 at st7 ⊢
    clear hq st6
    clear p0 p1 p2 p3 p4 p5 p6 p7 p8 fp
    refine (l1Below_any C A B w7 st7.cur 400 (by omega) (by omega)).mono ?_
    rintro e w8 ⟨z, rfl, hz, hD8, hF8⟩
    have st8 := st7.call hD8 hF8
    clear st7 hD8 hF8
    have hq : (w8.setCell ⟨P, 4, none⟩ (.int .i64 (z : Int))).heap[P]? = some (.cells #[.int .i64 1, .int .i64 (tx : Int), .int .i64 (1 + (x : Int)), .int .i64 (y : Int), .int .i64 (z : Int), .slice none 0 0, .slice none 0 0, .int .i64 0, .string ⟨#[]⟩] 28) := by simp [World.setCell, Array.getElem?_modify, st8.page]
    obtain ⟨q0, q1, q2, q3, q4, q5, q6, q7, q8⟩ := box_page st8.page
    have fp := box_thaw st8.page
    have st9 := st8.set 4 (.int .i64 (z : Int)) hq
    clear hq st8
    obtain ⟨p0, p1, p2, p3, p4, p5, p6, p7, p8⟩ := box_page st9.page
    obtain ⟨r0, r1, r2, r3, r4, r5, r6, r7, r8⟩ := box_page st9.res
    have ff := box_thaw st9.res
    have HB := put9D_box st9.res (.int .i64 1) (.int .i64 (tx : Int)) (.int .i64 (1 + (x : Int))) (.int .i64 (y : Int)) (.int .i64 (z : Int)) (.slice none 0 0) (.slice none 0 0) (.int .i64 0) (.string ⟨#[]⟩)
    have hfz := put9D_fr (w8.setCell ⟨P, 4, none⟩ (.int .i64 (z : Int))) w.heap.size (.int .i64 1) (.int .i64 (tx : Int)) (.int .i64 (1 + (x : Int))) (.int .i64 (y : Int)) (.int .i64 (z : Int)) (.slice none 0 0) (.slice none 0 0) (.int .i64 0) (.string ⟨#[]⟩)
    have hDZ : DCur (put9D (w8.setCell ⟨P, 4, none⟩ (.int .i64 (z : Int))) w.heap.size (.int .i64 1) (.int .i64 (tx : Int)) (.int .i64 (1 + (x : Int))) (.int .i64 (y : Int)) (.int .i64 (z : Int)) (.slice none 0 0) (.slice none 0 0) (.int .i64 0) (.string ⟨#[]⟩)) C A B := st9.cur.frg hfz (fun g e => by omega)
    have hFZ : Fr (fun g => g = C) w (put9D (w8.setCell ⟨P, 4, none⟩ (.int .i64 (z : Int))) w.heap.size (.int .i64 1) (.int .i64 (tx : Int)) (.int .i64 (1 + (x : Int))) (.int .i64 (y : Int)) (.int .i64 (z : Int)) (.slice none 0 0) (.slice none 0 0) (.int .i64 0) (.string ⟨#[]⟩)) := st9.fr.up2 hfz (fun g e => by omega)
    go_wp2
    show bodyPost _ _ _ _ _ (put9D (w8.setCell ⟨P, 4, none⟩ (.int .i64 (z : Int))) w.heap.size (.int .i64 1) (.int .i64 (tx : Int)) (.int .i64 (1 + (x : Int))) (.int .i64 (y : Int)) (.int .i64 (z : Int)) (.slice none 0 0) (.slice none 0 0) (.int .i64 0) (.string ⟨#[]⟩))
    clear r0 r1 r2 r3 r4 r5 r6 r7 r8
    obtain ⟨r0, r1, r2, r3, r4, r5, r6, r7, r8⟩ := box_page HB
    refine bodyPost_ret (v := .agg #[.int .i64 1, .int .i64 (tx : Int), .int .i64 (1 + (x : Int)), .int .i64 (y : Int), .int .i64 (z : Int), .slice none 0 0, .slice none 0 0, .int .i64 0, .string ⟨#[]⟩]) (by simp [results, Try.results35, go_sem, r0, r1, r2, r3, r4, r5, r6, r7, r8]) rfl ?_
    exact ⟨_, rfl, ⟨⟨1, (tx : Int), 1 + (x : Int), (y : Int), (z : Int), [], [], 0, ⟨#[]⟩⟩, _, _, _, _, rfl, ⟨fit_nat 1 (by omega), fit_nat tx (by omega), by show I64 (1 + (x : Int)); unfold I64; omega, fit_nat y (by omega), fit_nat z (by omega), fit_nat 0 (by omega), Nat.zero_le _⟩, Nat.zero_le _, Nat.zero_le _, (by intro x hx; cases hx), (by intro x hx; cases hx), World.ownsRow_nil _ _ _ _, World.ownsRow_nil _ _ _ _, (fun g h1 h2 => none_ownD _ _ _ h1), ⟨rfl, by simp [bodyOk, metaOk, inB, ByteArray.toList_eq]; omega⟩⟩, hDZ, hFZ⟩
  · have st3 : PSt w w3 C A B P #[.int .i64 2, .int .i64 (tx : Int), .int .i64 0, .int .i64 0, .int .i64 0, .slice none 0 0, .slice none 0 0, .int .i64 0, .string ⟨#[]⟩] := st3
    obtain ⟨p0, p1, p2, p3, p4, p5, p6, p7, p8⟩ := box_page st3.page
    have fp := box_thaw st3.page
    rcases Nat.lt_or_ge n 2 with hn2 | hn2
    go_wp2_with fail
    refine (l2Keys_any C A B w3 st3.cur 2 (by omega)).mono ?_
    rotate_left 1
    go_wp2_with fail
    refine (l2Keys_any C A B w3 st3.cur n (by omega)).mono ?_
    all_goals
      rintro e w4 ⟨ka, kc, ss, rfl, hsl, hss, hown4, hD4, hF4⟩
      have HAsc : Hid (Asc 12 ss) := hss
      have hsl2 : 2 ≤ ss.length ∧ ss.length ≤ 4 := by omega
      clear hsl hss
      have st4 := st3.call hD4 hF4
      have hPl := (Array.getElem?_eq_some_iff.1 st4.page).1
      have hRl := (Array.getElem?_eq_some_iff.1 st4.res).1
      have hlow := st4.low
      have hw3 := st3.fr.size
      have hP3 := (Array.getElem?_eq_some_iff.1 st3.page).1
      clear st3 hD4 hF4 p0 p1 p2 p3 p4 p5 p6 p7 p8 fp
      have hsl4 : ss.length ≤ 12 := by omega
      go_wp2_with fail
      go_loopw [52] (fun i wr => ∃ (k : Nat) (ba : Option Addr) (bc : Nat) (l : List PK), k ≤ ss.length ∧ i = .int .i64 k ∧ l.length = k ∧ ((∀ x ∈ l, kidFit x) ∧ KOk (low : Int) (last : Int) ss l) ∧ PSt w wr C A B P #[.int .i64 2, .int .i64 (tx : Int), .int .i64 0, .int .i64 0, .int .i64 0, .slice ba k bc, .slice none 0 0, .int .i64 0, .string ⟨#[]⟩] ∧ wr.ownsRow w4.heap.size 100 2 (.slice ba k bc) k (rowsOf kidCells l) ∧ wr.ownsRow w3.heap.size 9 1 (.slice ka ss.length kc) ss.length (ss.map Value.string) ∧ w4.heap.size ≤ wr.heap.size) (fun i _ => ss.length - (intOf i).toNat)
      case atStart => exact ⟨0, none, 0, [], Nat.zero_le _, rfl, rfl, ⟨(by intro x hx; cases hx), (by intro i hi; cases hi)⟩, st4, World.ownsRow_nil _ _ _ _, hown4, Nat.le_refl _⟩
      case round =>
        have hkb : ∀ g, (Value.slice ka ss.length kc).ownBlock = some g → g < w4.heap.size := fun g e => (hown4.lt g e).2
        clear st4 hown4
        obtain ⟨k, ba, bc, l, hk, rfl, hl0, hfit, st, hown, hkeys, hsz⟩ := hrel
        have HL : Hid (l.length = k) := hl0
        have HFit : Hid ((∀ x ∈ l, kidFit x) ∧ KOk (low : Int) (last : Int) ss l) := hfit
        clear hl0 hfit
        by_cases hlt : k < ss.length
        · obtain ⟨gk, rfl⟩ := owns_someD hkeys (by omega)
          have hgk := hkb gk rfl
          have e1 := hkeys.cellAt k (by simp; omega)
          rw [List.getElem?_map, List.getElem?_eq_getElem hlt] at e1
          have hkd : ss.getD k ⟨#[]⟩ = ss[k] := by simp [List.getD, hlt]
          have hs8 : ss[k].size ≤ 8 := by have := (HAsc.out.key (Nat.le_refl _) ⟨#[]⟩ k hlt).1; rw [hkd] at this; exact key_size this
          have HKD : Hid (ss.getD k ⟨#[]⟩ = ss[k]) := hkd
          clear hkd
          generalize ss[k] = key at e1 hs8 HKD
          simp only [Option.map_some] at e1
          have hgw : gk < wr.heap.size := by omega
          have hgne := (show gk ≠ wr.heap.size by omega)
          have hgne' := hgne.symm
          go_wp2_with fail
          go_region_held3 (fun w' => w'.cell? ⟨gk, k, none⟩ = some (.string key)) (go_keep)
            (first
              | (go_at_call 74; refine (l2DrawNum_any C A B (wr.drew.alloc (.cells #[.string ⟨#[]⟩, .int .i64 0] 100)) ((st.cur.below ((Below.refl _ _).drew)).below ((Below.refl _ _).alloc (Nat.le_refl _) _)) low last hl hl2).mono ?_; rintro e w5 ⟨x, rfl, hxl, hx, hD5, hF5⟩; have st5 : PSt w w5 C A B P #[.int .i64 2, .int .i64 (tx : Int), .int .i64 0, .int .i64 0, .int .i64 0, .slice ba k bc, .slice none 0 0, .int .i64 0, .string ⟨#[]⟩] := ((st.bel ((Below.refl _ _).drew)).bel ((Below.refl _ _).alloc (Nat.le_refl _) _)).call hD5 hF5; have hK5 : w5.heap[wr.heap.size]? = some (.cells #[.string ⟨#[]⟩, .int .i64 0] 100) := (hF5.block _ (by simp) (by have := st.cur.lt; omega)).trans (heap_alloc_new wr.drew (.cells #[.string ⟨#[]⟩, .int .i64 0] 100)); obtain ⟨k0, k1⟩ := box_kid hK5; have fk := box_thaw hK5; have e1' : w5.cell? ⟨gk, k, none⟩ = some (.string key) := (World.cell?_of_block (hF5.block gk (by simp; omega) (by have := st.old; have := (hkeys.lt gk rfl).1; have := st.fr.size; omega))).trans (((Below.refl wr.heap.size wr).drew.alloc (Nat.le_refl _) (.cells #[.string ⟨#[]⟩, .int .i64 0] 100)).cell (p := ⟨gk, k, none⟩) hgw |>.trans e1); have mk5 : True := trivial)
              | (go_at_call 74; refine (l2DrawNum_any C A B wr.drew (st.cur.below ((Below.refl _ _).drew)) low last hl hl2).mono ?_; rintro e w5 ⟨x, rfl, hxl, hx, hD5, hF5⟩; have st5 : PSt w w5 C A B P #[.int .i64 2, .int .i64 (tx : Int), .int .i64 0, .int .i64 0, .int .i64 0, .slice ba k bc, .slice none 0 0, .int .i64 0, .string ⟨#[]⟩] := (st.bel ((Below.refl _ _).drew)).call hD5 hF5; have e1' : w5.cell? ⟨gk, k, none⟩ = some (.string key) := (World.cell?_of_block (hF5.block gk (by simp; omega) (by have := st.old; have := (hkeys.lt gk rfl).1; have := st.fr.size; omega))).trans e1; have hg5 : gk ≠ w5.heap.size := (by have := hF5.size; simp at this; omega)))
          all_goals
            have s45 := st5.fr.size
            have hwr5 : wr.heap.size ≤ w5.heap.size := (by have := hF5.size; simp at this; omega)
            have hPw : P < wr.heap.size := (Array.getElem?_eq_some_iff.1 st.page).1
            have hold := st.old
          all_goals
            first
            | (have _ := mk5
               have hX : ((w5.setCell ⟨wr.heap.size, 0, none⟩ (.string key)).setCell ⟨wr.heap.size, 1, none⟩ (.int .i64 (x : Int))).heap[wr.heap.size]? = some (.cells #[.string key, .int .i64 (x : Int)] 100) := (by simp [World.setCell, Array.getElem?_modify, hK5])
               have hF6 : Fr (fun g => g = wr.heap.size) w5 ((w5.setCell ⟨wr.heap.size, 0, none⟩ (.string key)).setCell ⟨wr.heap.size, 1, none⟩ (.int .i64 (x : Int))) := (setD_fr _ _ _ _).trans (setD_fr _ _ _ _)
               generalize (w5.setCell ⟨wr.heap.size, 0, none⟩ (.string key)).setCell ⟨wr.heap.size, 1, none⟩ (.int .i64 (x : Int)) = X at hX hF6 ⊢
               have hFX : Fr (fun g => g = C ∨ g = wr.heap.size) wr X := (((Fr.of_below (Below.refl wr.heap.size wr).drew).trans (Fr.of_below ((Below.refl _ _).alloc (Nat.le_refl _) _))).trans (hF5.weak fun g e => .inl e)).trans (hF6.weak fun g e => .inr e)
               have stX := st5.frg hF6 (fun g e => (by omega))
               have hKw : wr.heap.size ≤ wr.heap.size := (Nat.le_refl _)
               generalize hKK : wr.heap.size = K at hX hFX hKw ⊢
               have hKlow : w4.heap.size ≤ K := (by omega)
               have hKwr : wr.heap.size ≤ K := (by omega))
            | (have hX := heap_alloc_new w5 (.cells #[.string key, .int .i64 (x : Int)] 100)
               have hF6 : Fr (fun g => g = w5.heap.size) w5 (w5.alloc (.cells #[.string key, .int .i64 (x : Int)] 100)) := Fr.of_below ((Below.refl _ _).alloc (Nat.le_refl _) _)
               generalize w5.alloc (.cells #[.string key, .int .i64 (x : Int)] 100) = X at hX hF6 ⊢
               have hFX : Fr (fun g => g = C ∨ g = w5.heap.size) wr X := ((Fr.of_below (Below.refl wr.heap.size wr).drew).trans (hF5.weak fun g e => .inl e)).trans (hF6.weak fun g e => .inr e)
               have stX := st5.frg hF6 (fun g e => (by omega))
               generalize hKK : w5.heap.size = K at hX hFX ⊢
               have hKlow : w4.heap.size ≤ K := (by omega)
               have hKwr : wr.heap.size ≤ K := (by omega))
          all_goals
            have hKX := (Array.getElem?_eq_some_iff.1 hX).1
            have hownX := owns_fr hown hFX (fun g e e' => by have := hown.lt g e; omega)
            have hkeysX := owns_fr hkeys hFX (fun g e e' => by have := hkeys.lt g e; omega)
            have hKo : ∀ g, (Value.slice ba k bc).ownBlock = some g → g ≠ K := fun g e => by have := (hown.lt g e).2; omega
            have hKk : gk ≠ K := by omega
            have hKP : K ≠ P := by omega
            have hPK : P ≠ K := by omega
            have hgP : gk ≠ P := by have := (hkeys.lt gk rfl).1; omega
            have hsX : w4.heap.size ≤ X.heap.size := by omega
            have hol := fun g e => (hown.lt g e).1
            have hkfit : kidFit (key, (x : Int)) := ⟨by unfold maxLen; show key.size ≤ _; omega, fit_nat x (by omega)⟩
            clear hown hkeys hFX hF6 hF5 hD5 st5 st e1 e1' hKK
            by_cases hk0 : k = 0
            · have hk0' : ((k : Int) == 0) = true := by simp; omega
              have HK0 : Hid (k = 0) := hk0
              clear hk0
              have fk := box_thaw hX
              obtain ⟨m0, m1⟩ := box_kid hX
              have hX2 : (X.setCell ⟨K, 0, none⟩ (.string ⟨#[]⟩)).heap[K]? = some (.cells #[.string ⟨#[]⟩, .int .i64 (x : Int)] 100) := by simp [World.setCell, Array.getElem?_modify, hX]
              have hF7 := setD_fr X K 0 (.string ⟨#[]⟩)
              have st7 := stX.frg hF7 (fun g e => (by omega))
              have hown7 := owns_fr hownX hF7 (fun g e e' => hKo g e e')
              have hkeys7 := owns_fr hkeysX hF7 (fun g e e' => by simp [Value.ownBlock] at e; omega)
              have hs7 := hF7.size
              have hkf7 : kidFit (⟨#[]⟩, (x : Int)) := ⟨Nat.zero_le _, hkfit.2⟩
              obtain ⟨y0, y1, y2, y3, y4, y5, y6, y7, y8⟩ := box_page stX.page
              have fy := box_thaw stX.page
              have hal : (((X.setCell ⟨K, 0, none⟩ (.string ⟨#[]⟩))).alloc (.cells #[.string (⟨#[]⟩ : ByteArray), .int .i64 (x : Int)] 100)).heap[X.heap.size]? = some (.cells #[.string (⟨#[]⟩ : ByteArray), .int .i64 (x : Int)] 100) := by have := heap_alloc_new ((X.setCell ⟨K, 0, none⟩ (.string ⟨#[]⟩))) (.cells #[.string (⟨#[]⟩ : ByteArray), .int .i64 (x : Int)] 100); simpa [World.setCell] using this
              have hsal := (Below.refl ((X.setCell ⟨K, 0, none⟩ (.string ⟨#[]⟩))).heap.size ((X.setCell ⟨K, 0, none⟩ (.string ⟨#[]⟩)))).alloc (Nat.le_refl _) (.cells #[.string (⟨#[]⟩ : ByteArray), .int .i64 (x : Int)] 100)
              have hPY := (Array.getElem?_eq_some_iff.1 st7.page).1
              have hal5 := hown7.alloc (.cells #[.string (⟨#[]⟩ : ByteArray), .int .i64 (x : Int)] 100)
              have st8a := st7.bel hsal
              go_wp2_with (at_builtin; refine wpList_kidD rfl _ _ rfl w4.heap.size (.slice ba k bc) k (rowsOf kidCells l) rfl hal5 X.heap.size (⟨#[]⟩ : ByteArray) (x : Int) rfl hal (by omega) (by simp; omega) ?_; intro v8 w8 hown8 hgr hlies; obtain ⟨a8, c8, rfl⟩ := own_shape hown8; have hF8 : Fr (fun g => (Value.slice ba k bc).ownBlock = some g) _ w8 := Fr.of_grown hgr (fun g e => e); have st8 := st8a.frg hF8 (fun g e => (by have := hol g e; omega)); clear y0 y1 y2 y3 y4 y5 y6 y7 y8 fy; obtain ⟨y0, y1, y2, y3, y4, y5, y6, y7, y8⟩ := box_page st8.page; have fy := box_thaw st8.page)
              have hq : (w8.setCell ⟨P, 5, none⟩ (.slice a8 (k + 1) c8)).heap[P]? = some (.cells #[.int .i64 2, .int .i64 (tx : Int), .int .i64 0, .int .i64 0, .int .i64 0, .slice a8 (k + 1) c8, .slice none 0 0, .int .i64 0, .string ⟨#[]⟩] 28) := by simp [World.setCell, Array.getElem?_modify, st8.page]
              have st9 := st8.set 5 (.slice a8 (k + 1) c8) hq
              have hF9 := setD_fr w8 P 5 (.slice a8 (k + 1) c8)
              have hown9 := owns_fr hown8 hF9 (fun g e e' => by have := (hown8.lt g e).1; omega)
              have hkeys9 := owns_fr (owns_fr (hkeys7.alloc (.cells #[.string (⟨#[]⟩ : ByteArray), .int .i64 (x : Int)] 100)) hF8 (fun g e e' => by have h1 := hol g e'; simp [Value.ownBlock] at e; omega)) hF9 (fun g e e' => by simp [Value.ownBlock] at e; omega)
              have hs9 := hF9.size
              have hs8 := hF8.size
              have HL2 : Hid ((l ++ [((⟨#[]⟩ : ByteArray), (x : Int))]).length = k + 1) := by show _ = _; rw [List.length_append, HL.out]; rfl
              have HF2 : Hid ((∀ y ∈ l ++ [((⟨#[]⟩ : ByteArray), (x : Int))], kidFit y) ∧ KOk (low : Int) (last : Int) ss (l ++ [((⟨#[]⟩ : ByteArray), (x : Int))])) := by
                refine ⟨?_, HFit.out.2.snoc _ (by rw [HL.out, if_pos HK0.out]) (by show (low : Int) ≤ (x : Int) ∧ (x : Int) ≤ (last : Int); omega)⟩
                intro y hy
                rcases List.mem_append.1 hy with hy | hy
                · exact HFit.out.1 y hy
                · simp only [List.mem_singleton] at hy; subst hy; exact hkf7
              have HO9 : Hid ((w8.setCell ⟨P, 5, none⟩ (.slice a8 (k + 1) c8)).ownsRow w4.heap.size 100 2 (.slice a8 (k + 1) c8) (k + 1) (rowsOf kidCells (l ++ [((⟨#[]⟩ : ByteArray), (x : Int))]))) := by show World.ownsRow _ _ _ _ _ _ _; rw [rowsOf_snoc]; exact hown9
              have hsz9 : w4.heap.size ≤ (w8.setCell ⟨P, 5, none⟩ (.slice a8 (k + 1) c8)).heap.size := by have := hsal.size; omega
              clear hown9 hown8 hgr hlies hal hal5 hF8 hF9 st8 st8a
              go_roundw
              case rel => exact ⟨k + 1, a8, c8, l ++ [((⟨#[]⟩ : ByteArray), (x : Int))], by omega, by go_num, HL2.out, HF2.out, st9, HO9.out, hkeys9, hsz9⟩
              case measure => simp [intOf]; omega
            · have hk0' : ((k : Int) == 0) = false := by simp; omega
              obtain ⟨m0, m1⟩ := box_kid hX
              obtain ⟨y0, y1, y2, y3, y4, y5, y6, y7, y8⟩ := box_page stX.page
              have fy := box_thaw stX.page
              have hal : ((X).alloc (.cells #[.string key, .int .i64 (x : Int)] 100)).heap[X.heap.size]? = some (.cells #[.string key, .int .i64 (x : Int)] 100) := by have := heap_alloc_new (X) (.cells #[.string key, .int .i64 (x : Int)] 100); simpa [World.setCell] using this
              have hsal := (Below.refl (X).heap.size (X)).alloc (Nat.le_refl _) (.cells #[.string key, .int .i64 (x : Int)] 100)
              have hPY := (Array.getElem?_eq_some_iff.1 stX.page).1
              have hal5 := hownX.alloc (.cells #[.string key, .int .i64 (x : Int)] 100)
              have st8a := stX.bel hsal
              go_wp2_with (at_builtin; refine wpList_kidD rfl _ _ rfl w4.heap.size (.slice ba k bc) k (rowsOf kidCells l) rfl hal5 X.heap.size key (x : Int) rfl hal (by omega) (by simp; omega) ?_; intro v8 w8 hown8 hgr hlies; obtain ⟨a8, c8, rfl⟩ := own_shape hown8; have hF8 : Fr (fun g => (Value.slice ba k bc).ownBlock = some g) _ w8 := Fr.of_grown hgr (fun g e => e); have st8 := st8a.frg hF8 (fun g e => (by have := hol g e; omega)); clear y0 y1 y2 y3 y4 y5 y6 y7 y8 fy; obtain ⟨y0, y1, y2, y3, y4, y5, y6, y7, y8⟩ := box_page st8.page; have fy := box_thaw st8.page)
              have hq : (w8.setCell ⟨P, 5, none⟩ (.slice a8 (k + 1) c8)).heap[P]? = some (.cells #[.int .i64 2, .int .i64 (tx : Int), .int .i64 0, .int .i64 0, .int .i64 0, .slice a8 (k + 1) c8, .slice none 0 0, .int .i64 0, .string ⟨#[]⟩] 28) := by simp [World.setCell, Array.getElem?_modify, st8.page]
              have st9 := st8.set 5 (.slice a8 (k + 1) c8) hq
              have hF9 := setD_fr w8 P 5 (.slice a8 (k + 1) c8)
              have hown9 := owns_fr hown8 hF9 (fun g e e' => by have := (hown8.lt g e).1; omega)
              have hkeys9 := owns_fr (owns_fr (hkeysX.alloc (.cells #[.string key, .int .i64 (x : Int)] 100)) hF8 (fun g e e' => by have h1 := hol g e'; simp [Value.ownBlock] at e; omega)) hF9 (fun g e e' => by simp [Value.ownBlock] at e; omega)
              have hs9 := hF9.size
              have hs8 := hF8.size
              have HL2 : Hid ((l ++ [(key, (x : Int))]).length = k + 1) := by show _ = _; rw [List.length_append, HL.out]; rfl
              have HF2 : Hid ((∀ y ∈ l ++ [(key, (x : Int))], kidFit y) ∧ KOk (low : Int) (last : Int) ss (l ++ [(key, (x : Int))])) := by
                refine ⟨?_, HFit.out.2.snoc _ (by rw [HL.out, if_neg hk0]; exact HKD.out.symm) (by show (low : Int) ≤ (x : Int) ∧ (x : Int) ≤ (last : Int); omega)⟩
                intro y hy
                rcases List.mem_append.1 hy with hy | hy
                · exact HFit.out.1 y hy
                · simp only [List.mem_singleton] at hy; subst hy; exact hkfit
              have HO9 : Hid ((w8.setCell ⟨P, 5, none⟩ (.slice a8 (k + 1) c8)).ownsRow w4.heap.size 100 2 (.slice a8 (k + 1) c8) (k + 1) (rowsOf kidCells (l ++ [(key, (x : Int))]))) := by show World.ownsRow _ _ _ _ _ _ _; rw [rowsOf_snoc]; exact hown9
              have hsz9 : w4.heap.size ≤ (w8.setCell ⟨P, 5, none⟩ (.slice a8 (k + 1) c8)).heap.size := by have := hsal.size; omega
              clear hown9 hown8 hgr hlies hal hal5 hF8 hF9 st8 st8a
              go_roundw
              case rel => exact ⟨k + 1, a8, c8, l ++ [(key, (x : Int))], by omega, by go_num, HL2.out, HF2.out, st9, HO9.out, hkeys9, hsz9⟩
              case measure => simp [intOf]; omega
        · have e := HL.out
          subst e
          have hPw : P < wr.heap.size := (Array.getElem?_eq_some_iff.1 st.page).1
          obtain ⟨p0, p1, p2, p3, p4, p5, p6, p7, p8⟩ := box_page st.page
          obtain ⟨r0, r1, r2, r3, r4, r5, r6, r7, r8⟩ := box_page st.res
          have ff := box_thaw st.res
          have HB := put9D_box st.res (.int .i64 2) (.int .i64 (tx : Int)) (.int .i64 0) (.int .i64 0) (.int .i64 0) (.slice ba l.length bc) (.slice none 0 0) (.int .i64 0) (.string ⟨#[]⟩)
          have hfz := put9D_fr wr w.heap.size (.int .i64 2) (.int .i64 (tx : Int)) (.int .i64 0) (.int .i64 0) (.int .i64 0) (.slice ba l.length bc) (.slice none 0 0) (.int .i64 0) (.string ⟨#[]⟩)
          have hDZ : DCur (put9D wr w.heap.size (.int .i64 2) (.int .i64 (tx : Int)) (.int .i64 0) (.int .i64 0) (.int .i64 0) (.slice ba l.length bc) (.slice none 0 0) (.int .i64 0) (.string ⟨#[]⟩)) C A B := st.cur.frg hfz (fun g e => by omega)
          have hFZ : Fr (fun g => g = C) w (put9D wr w.heap.size (.int .i64 2) (.int .i64 (tx : Int)) (.int .i64 0) (.int .i64 0) (.int .i64 0) (.slice ba l.length bc) (.slice none 0 0) (.int .i64 0) (.string ⟨#[]⟩)) := st.fr.up2 hfz (fun g e => by omega)
          have hownZ := own_lowerD (owns_fr hown hfz (fun g e e' => by have := (hown.lt g e).1; omega)) (show w.heap.size ≤ w4.heap.size by omega)
          clear hown hkeys hfz
          go_wp2
          show bodyPost _ _ _ _ _ (put9D wr w.heap.size (.int .i64 2) (.int .i64 (tx : Int)) (.int .i64 0) (.int .i64 0) (.int .i64 0) (.slice ba l.length bc) (.slice none 0 0) (.int .i64 0) (.string ⟨#[]⟩))
          clear r0 r1 r2 r3 r4 r5 r6 r7 r8
          obtain ⟨r0, r1, r2, r3, r4, r5, r6, r7, r8⟩ := box_page HB
          refine bodyPost_ret (v := .agg #[.int .i64 2, .int .i64 (tx : Int), .int .i64 0, .int .i64 0, .int .i64 0, .slice ba l.length bc, .slice none 0 0, .int .i64 0, .string ⟨#[]⟩]) (by simp [results, Try.results35, go_sem, r0, r1, r2, r3, r4, r5, r6, r7, r8]) rfl ?_
          exact ⟨_, rfl, ⟨⟨2, (tx : Int), 0, 0, 0, l, [], 0, ⟨#[]⟩⟩, _, _, _, _, rfl, ⟨fit_nat 2 (by omega), fit_nat tx (by omega), fit_nat 0 (by omega), fit_nat 0 (by omega), fit_nat 0 (by omega), fit_nat 0 (by omega), Nat.zero_le _⟩, (show l.length ≤ 20 by omega), Nat.zero_le _, HFit.out.1, (by intro x hx; cases hx), hownZ, World.ownsRow_nil _ _ _ _, (fun g h1 h2 => none_ownD _ _ _ h2), ⟨rfl, kids_good HAsc.out HFit.out.2 (by omega) (by omega) (by omega)⟩⟩, hDZ, hFZ⟩
  · have st3 : PSt w w3 C A B P #[.int .i64 3, .int .i64 (tx : Int), .int .i64 0, .int .i64 0, .int .i64 0, .slice none 0 0, .slice none 0 0, .int .i64 0, .string ⟨#[]⟩] := st3
    obtain ⟨p0, p1, p2, p3, p4, p5, p6, p7, p8⟩ := box_page st3.page
    have fp := box_thaw st3.page
    go_wp2_with fail
    refine (l2Keys_any C A B w3 st3.cur n (by omega)).mono ?_
    rintro e w4 ⟨ka, kc, ss, rfl, hsl, hss, hown4, hD4, hF4⟩
    have HAsc : Hid (Asc 12 ss) := hss
    have hsl2 : ss.length ≤ 4 := by omega
    clear hsl hss
    have st4 := st3.call hD4 hF4
    have hPl := (Array.getElem?_eq_some_iff.1 st4.page).1
    have hRl := (Array.getElem?_eq_some_iff.1 st4.res).1
    have hlow := st4.low
    have hw3 := st3.fr.size
    have hP3 := (Array.getElem?_eq_some_iff.1 st3.page).1
    clear st3 hD4 hF4 p0 p1 p2 p3 p4 p5 p6 p7 p8 fp
    have hsl4 : ss.length ≤ 12 := by omega
    go_wp2_with fail
    go_loopw [81] (fun i wr => ∃ (k : Nat) (ba : Option Addr) (bc : Nat) (l : List PE), k ≤ ss.length ∧ i = .int .i64 k ∧ l.length = k ∧ ((∀ x ∈ l, entFit x) ∧ EOk (low : Int) (last : Int) ss l) ∧ PSt w wr C A B P #[.int .i64 3, .int .i64 (tx : Int), .int .i64 0, .int .i64 0, .int .i64 0, .slice none 0 0, .slice ba k bc, .int .i64 0, .string ⟨#[]⟩] ∧ wr.ownsRow w4.heap.size 102 4 (.slice ba k bc) k (rowsOf entCells l) ∧ wr.ownsRow w3.heap.size 9 1 (.slice ka ss.length kc) ss.length (ss.map Value.string) ∧ w4.heap.size ≤ wr.heap.size) (fun i _ => ss.length - (intOf i).toNat)
    case atStart => exact ⟨0, none, 0, [], Nat.zero_le _, rfl, rfl, ⟨(by intro x hx; cases hx), (by intro i hi; cases hi)⟩, st4, World.ownsRow_nil _ _ _ _, hown4, Nat.le_refl _⟩
    case round =>
      have hkb : ∀ g, (Value.slice ka ss.length kc).ownBlock = some g → g < w4.heap.size := fun g e => (hown4.lt g e).2
      clear st4 hown4
      obtain ⟨k, ba, bc, l, hk, rfl, hl0, hfit, st, hown, hkeys, hsz⟩ := hrel
      have HL : Hid (l.length = k) := hl0
      have HFit : Hid ((∀ x ∈ l, entFit x) ∧ EOk (low : Int) (last : Int) ss l) := hfit
      clear hl0 hfit
      by_cases hlt : k < ss.length
      · obtain ⟨gk, rfl⟩ := owns_someD hkeys (by omega)
        have hgk := hkb gk rfl
        have e1 := hkeys.cellAt k (by simp; omega)
        rw [List.getElem?_map, List.getElem?_eq_getElem hlt] at e1
        have hkd : ss.getD k ⟨#[]⟩ = ss[k] := by simp [List.getD, hlt]
        have hs8 : ss[k].size ≤ 8 := by have := (HAsc.out.key (Nat.le_refl _) ⟨#[]⟩ k hlt).1; rw [hkd] at this; exact key_size this
        have HKD : Hid (ss.getD k ⟨#[]⟩ = ss[k]) := hkd
        clear hkd
        generalize ss[k] = key at e1 hs8 HKD
        simp only [Option.map_some] at e1
        have hPw : P < wr.heap.size := (Array.getElem?_eq_some_iff.1 st.page).1
        have hold := st.old
        go_wp2_with fail
        refine (l2DrawEnt_any C A B wr st.cur key hs8 low last hl hl2).mono ?_
        rintro e w5 ⟨pe, rfl, hpe, hpo, hD5, hF5⟩
        have HPO : Hid (pe.1 = key ∧ (shortB pe || longB (low : Int) (last : Int) pe) = true) := hpo
        clear hpo
        have st5 := st.call hD5 hF5
        have hown5 := owns_fr hown hF5 (fun g e e' => by have := (hown.lt g e).1; omega)
        have hkeys5 := owns_fr hkeys hF5 (fun g e e' => by have := (hkeys.lt g e).1; omega)
        have hol := fun g e => (hown.lt g e).1
        have hgP : gk ≠ P := by have := (hkeys.lt gk rfl).1; omega
        have hs5 := hF5.size
        clear hown hkeys st hD5 hF5 e1
        obtain ⟨y0, y1, y2, y3, y4, y5, y6, y7, y8⟩ := box_page st5.page
        have fy := box_thaw st5.page
        have hP5 := (Array.getElem?_eq_some_iff.1 st5.page).1
        have hb5 : Below w5.heap.size w5 ((w5.alloc (.cells #[.string pe.1, .string pe.2.1, .int .i64 pe.2.2.1, .int .i64 pe.2.2.2] 102)).alloc (.cells #[.string pe.1, .string pe.2.1, .int .i64 pe.2.2.1, .int .i64 pe.2.2.2] 102)) := ((Below.refl _ _).alloc (Nat.le_refl _) _).alloc (by simp) _
        have hal : ((w5.alloc (.cells #[.string pe.1, .string pe.2.1, .int .i64 pe.2.2.1, .int .i64 pe.2.2.2] 102)).alloc (.cells #[.string pe.1, .string pe.2.1, .int .i64 pe.2.2.1, .int .i64 pe.2.2.2] 102)).heap[w5.heap.size + 1]? = some (.cells #[.string pe.1, .string pe.2.1, .int .i64 pe.2.2.1, .int .i64 pe.2.2.2] 102) := by have := heap_alloc_new (w5.alloc (.cells #[.string pe.1, .string pe.2.1, .int .i64 pe.2.2.1, .int .i64 pe.2.2.2] 102)) (.cells #[.string pe.1, .string pe.2.1, .int .i64 pe.2.2.1, .int .i64 pe.2.2.2] 102); simpa using this
        have hal5 := (hown5.alloc (.cells #[.string pe.1, .string pe.2.1, .int .i64 pe.2.2.1, .int .i64 pe.2.2.2] 102)).alloc (.cells #[.string pe.1, .string pe.2.1, .int .i64 pe.2.2.1, .int .i64 pe.2.2.2] 102)
        have st8a := st5.bel hb5
        have hkeys8 := (hkeys5.alloc (.cells #[.string pe.1, .string pe.2.1, .int .i64 pe.2.2.1, .int .i64 pe.2.2.2] 102)).alloc (.cells #[.string pe.1, .string pe.2.1, .int .i64 pe.2.2.1, .int .i64 pe.2.2.2] 102)
        clear hown5 hkeys5
        go_wp2_with (at_builtin; refine wpList_entD rfl _ _ rfl w4.heap.size (.slice ba k bc) k (rowsOf entCells l) rfl hal5 (w5.heap.size + 1) pe rfl hal (by omega) (by simp; omega) ?_; intro v8 w8 hown8 hgr hlies; obtain ⟨a8, c8, rfl⟩ := own_shape hown8; have hF8 : Fr (fun g => (Value.slice ba k bc).ownBlock = some g) _ w8 := Fr.of_grown hgr (fun g e => e); have st8 := st8a.frg hF8 (fun g e => (by have := hol g e; omega)); clear y0 y1 y2 y3 y4 y5 y6 y7 y8 fy; obtain ⟨y0, y1, y2, y3, y4, y5, y6, y7, y8⟩ := box_page st8.page; have fy := box_thaw st8.page)
        have hq : (w8.setCell ⟨P, 6, none⟩ (.slice a8 (k + 1) c8)).heap[P]? = some (.cells #[.int .i64 3, .int .i64 (tx : Int), .int .i64 0, .int .i64 0, .int .i64 0, .slice none 0 0, .slice a8 (k + 1) c8, .int .i64 0, .string ⟨#[]⟩] 28) := by simp [World.setCell, Array.getElem?_modify, st8.page]
        have st9 := st8.set 6 (.slice a8 (k + 1) c8) hq
        have hF9 := setD_fr w8 P 6 (.slice a8 (k + 1) c8)
        have hown9 := owns_fr hown8 hF9 (fun g e e' => by have := (hown8.lt g e).1; omega)
        have hkeys9 := owns_fr (owns_fr hkeys8 hF8 (fun g e e' => by have h1 := hol g e'; simp [Value.ownBlock] at e; omega)) hF9 (fun g e e' => by simp [Value.ownBlock] at e; omega)
        have hs9 := hF9.size
        have hs8' := hF8.size
        have HL2 : Hid ((l ++ [pe]).length = k + 1) := by show _ = _; rw [List.length_append, HL.out]; rfl
        have HF2 : Hid ((∀ y ∈ l ++ [pe], entFit y) ∧ EOk (low : Int) (last : Int) ss (l ++ [pe])) := by
          refine ⟨?_, HFit.out.2.snoc _ (by rw [HL.out, HPO.out.1]; exact HKD.out.symm) HPO.out.2⟩
          intro y hy
          rcases List.mem_append.1 hy with hy | hy
          · exact HFit.out.1 y hy
          · simp only [List.mem_singleton] at hy; subst hy; exact hpe
        have HO9 : Hid ((w8.setCell ⟨P, 6, none⟩ (.slice a8 (k + 1) c8)).ownsRow w4.heap.size 102 4 (.slice a8 (k + 1) c8) (k + 1) (rowsOf entCells (l ++ [pe]))) := by show World.ownsRow _ _ _ _ _ _ _; rw [rowsOf_snoc]; exact hown9
        have hsz9 : w4.heap.size ≤ (w8.setCell ⟨P, 6, none⟩ (.slice a8 (k + 1) c8)).heap.size := by have := hb5.size; omega
        clear hown9 hown8 hgr hlies hal hal5 hF8 hF9 st8 st8a hkeys8
        go_roundw
        case rel => exact ⟨k + 1, a8, c8, l ++ [pe], by omega, by go_num, HL2.out, HF2.out, st9, HO9.out, hkeys9, hsz9⟩
        case measure => simp [intOf]; omega
      · have e := HL.out
        subst e
        have hPw : P < wr.heap.size := (Array.getElem?_eq_some_iff.1 st.page).1
        obtain ⟨p0, p1, p2, p3, p4, p5, p6, p7, p8⟩ := box_page st.page
        obtain ⟨r0, r1, r2, r3, r4, r5, r6, r7, r8⟩ := box_page st.res
        have ff := box_thaw st.res
        have HB := put9D_box st.res (.int .i64 3) (.int .i64 (tx : Int)) (.int .i64 0) (.int .i64 0) (.int .i64 0) (.slice none 0 0) (.slice ba l.length bc) (.int .i64 0) (.string ⟨#[]⟩)
        have hfz := put9D_fr wr w.heap.size (.int .i64 3) (.int .i64 (tx : Int)) (.int .i64 0) (.int .i64 0) (.int .i64 0) (.slice none 0 0) (.slice ba l.length bc) (.int .i64 0) (.string ⟨#[]⟩)
        have hDZ : DCur (put9D wr w.heap.size (.int .i64 3) (.int .i64 (tx : Int)) (.int .i64 0) (.int .i64 0) (.int .i64 0) (.slice none 0 0) (.slice ba l.length bc) (.int .i64 0) (.string ⟨#[]⟩)) C A B := st.cur.frg hfz (fun g e => by omega)
        have hFZ : Fr (fun g => g = C) w (put9D wr w.heap.size (.int .i64 3) (.int .i64 (tx : Int)) (.int .i64 0) (.int .i64 0) (.int .i64 0) (.slice none 0 0) (.slice ba l.length bc) (.int .i64 0) (.string ⟨#[]⟩)) := st.fr.up2 hfz (fun g e => by omega)
        have hownZ := own_lowerD (owns_fr hown hfz (fun g e e' => by have := (hown.lt g e).1; omega)) (show w.heap.size ≤ w4.heap.size by omega)
        clear hown hkeys hfz
        go_wp2
        show bodyPost _ _ _ _ _ (put9D wr w.heap.size (.int .i64 3) (.int .i64 (tx : Int)) (.int .i64 0) (.int .i64 0) (.int .i64 0) (.slice none 0 0) (.slice ba l.length bc) (.int .i64 0) (.string ⟨#[]⟩))
        clear r0 r1 r2 r3 r4 r5 r6 r7 r8
        obtain ⟨r0, r1, r2, r3, r4, r5, r6, r7, r8⟩ := box_page HB
        refine bodyPost_ret (v := .agg #[.int .i64 3, .int .i64 (tx : Int), .int .i64 0, .int .i64 0, .int .i64 0, .slice none 0 0, .slice ba l.length bc, .int .i64 0, .string ⟨#[]⟩]) (by simp [results, Try.results35, go_sem, r0, r1, r2, r3, r4, r5, r6, r7, r8]) rfl ?_
        exact ⟨_, rfl, ⟨⟨3, (tx : Int), 0, 0, 0, [], l, 0, ⟨#[]⟩⟩, _, _, _, _, rfl, ⟨fit_nat 3 (by omega), fit_nat tx (by omega), fit_nat 0 (by omega), fit_nat 0 (by omega), fit_nat 0 (by omega), fit_nat 0 (by omega), Nat.zero_le _⟩, Nat.zero_le _, (show l.length ≤ 20 by omega), (by intro x hx; cases hx), HFit.out.1, World.ownsRow_nil _ _ _ _, hownZ, (fun g h1 h2 => none_ownD _ _ _ h1), ⟨rfl, ents_good HAsc.out HFit.out.2 (by omega) (by omega)⟩⟩, hDZ, hFZ⟩
  · have st3 : PSt w w3 C A B P #[.int .i64 4, .int .i64 (tx : Int), .int .i64 0, .int .i64 0, .int .i64 0, .slice none 0 0, .slice none 0 0, .int .i64 0, .string ⟨#[]⟩] := st3
    obtain ⟨p0, p1, p2, p3, p4, p5, p6, p7, p8⟩ := box_page st3.page
    have fp := box_thaw st3.page
    go_wp2_with fail
    refine (l1Below_any C A B w3 st3.cur 96 (by omega) (by omega)).mono ?_
    rintro e w4 ⟨x, rfl, hx, hD4, hF4⟩
    have st4 := st3.call hD4 hF4
    clear st3 hD4 hF4 p0 p1 p2 p3 p4 p5 p6 p7 p8 fp
    obtain ⟨p0, p1, p2, p3, p4, p5, p6, p7, p8⟩ := box_page st4.page
    have fp := box_thaw st4.page
    go_wp2_with fail
    refine (l1Many_any ⟨#[111]⟩ (by decide) (1 + x) (by omega) w4).mono ?_
    rintro e w5 ⟨v, rfl, hv, hb5⟩
    have st5 := st4.bel hb5
    have hvs : 1 ≤ v.size ∧ v.size ≤ 96 := by rw [hv]; simp [ByteArray.size]; omega
    clear st4 hb5 p0 p1 p2 p3 p4 p5 p6 p7 p8 fp
    obtain ⟨p0, p1, p2, p3, p4, p5, p6, p7, p8⟩ := box_page st5.page
    have fp := box_thaw st5.page
    go_wp2_with fail
    have hq : (w5.setCell ⟨P, 8, none⟩ (.string v)).heap[P]? = some (.cells #[.int .i64 4, .int .i64 (tx : Int), .int .i64 0, .int .i64 0, .int .i64 0, .slice none 0 0, .slice none 0 0, .int .i64 0, .string v] 28) := by simp [World.setCell, Array.getElem?_modify, st5.page]
    have st6 := st5.set 8 (.string v) hq
    generalize w5.setCell ⟨P, 8, none⟩ (.string v) = w6 at st6 ⊢
    clear hq st5
    clear p0 p1 p2 p3 p4 p5 p6 p7 p8 fp
    refine (l1Once_any C A B w6 st6.cur 2 (by omega) (by omega)).mono ?_
    rintro e w7 ⟨b, rfl, hD7, hF7⟩
    have st7 := st6.call hD7 hF7
    clear st6 hD7 hF7
    cases b
    · obtain ⟨p0, p1, p2, p3, p4, p5, p6, p7, p8⟩ := box_page st7.page
      obtain ⟨r0, r1, r2, r3, r4, r5, r6, r7, r8⟩ := box_page st7.res
      have ff := box_thaw st7.res
      have HB := put9D_box st7.res (.int .i64 4) (.int .i64 (tx : Int)) (.int .i64 0) (.int .i64 0) (.int .i64 0) (.slice none 0 0) (.slice none 0 0) (.int .i64 0) (.string v)
      have hfz := put9D_fr w7 w.heap.size (.int .i64 4) (.int .i64 (tx : Int)) (.int .i64 0) (.int .i64 0) (.int .i64 0) (.slice none 0 0) (.slice none 0 0) (.int .i64 0) (.string v)
      have hDZ : DCur (put9D w7 w.heap.size (.int .i64 4) (.int .i64 (tx : Int)) (.int .i64 0) (.int .i64 0) (.int .i64 0) (.slice none 0 0) (.slice none 0 0) (.int .i64 0) (.string v)) C A B := st7.cur.frg hfz (fun g e => by omega)
      have hFZ : Fr (fun g => g = C) w (put9D w7 w.heap.size (.int .i64 4) (.int .i64 (tx : Int)) (.int .i64 0) (.int .i64 0) (.int .i64 0) (.slice none 0 0) (.slice none 0 0) (.int .i64 0) (.string v)) := st7.fr.up2 hfz (fun g e => by omega)
      go_wp2
      show bodyPost _ _ _ _ _ (put9D w7 w.heap.size (.int .i64 4) (.int .i64 (tx : Int)) (.int .i64 0) (.int .i64 0) (.int .i64 0) (.slice none 0 0) (.slice none 0 0) (.int .i64 0) (.string v))
      clear r0 r1 r2 r3 r4 r5 r6 r7 r8
      obtain ⟨r0, r1, r2, r3, r4, r5, r6, r7, r8⟩ := box_page HB
      refine bodyPost_ret (v := .agg #[.int .i64 4, .int .i64 (tx : Int), .int .i64 0, .int .i64 0, .int .i64 0, .slice none 0 0, .slice none 0 0, .int .i64 0, .string v]) (by simp [results, Try.results35, go_sem, r0, r1, r2, r3, r4, r5, r6, r7, r8]) rfl ?_
      exact ⟨_, rfl, ⟨⟨4, (tx : Int), 0, 0, 0, [], [], 0, v⟩, _, _, _, _, rfl, ⟨fit_nat 4 (by omega), fit_nat tx (by omega), fit_nat 0 (by omega), fit_nat 0 (by omega), fit_nat 0 (by omega), fit_nat 0 (by omega), by unfold maxLen; show v.size ≤ _; omega⟩, Nat.zero_le _, Nat.zero_le _, (by intro x hx; cases hx), (by intro x hx; cases hx), World.ownsRow_nil _ _ _ _, World.ownsRow_nil _ _ _ _, (fun g h1 h2 => none_ownD _ _ _ h1), ⟨rfl, by simp [bodyOk, overOk, noMeta]; omega⟩⟩, hDZ, hFZ⟩
    · go_wp2_with fail
      refine (l1Many_any ⟨#[112]⟩ (by decide) 96 (by omega) w7).mono ?_
      rintro e w8 ⟨v2, rfl, hv2, hb8⟩
      have st8 := st7.bel hb8
      have hvs2 : 96 ≤ v2.size ∧ v2.size ≤ 96 := by rw [hv2]; simp [ByteArray.size]
      clear st7 hb8
      obtain ⟨p0, p1, p2, p3, p4, p5, p6, p7, p8⟩ := box_page st8.page
      have fp := box_thaw st8.page
      go_wp2_with fail
      have hq : (w8.setCell ⟨P, 8, none⟩ (.string v2)).heap[P]? = some (.cells #[.int .i64 4, .int .i64 (tx : Int), .int .i64 0, .int .i64 0, .int .i64 0, .slice none 0 0, .slice none 0 0, .int .i64 0, .string v2] 28) := by simp [World.setCell, Array.getElem?_modify, st8.page]
      have st9 := st8.set 8 (.string v2) hq
      generalize w8.setCell ⟨P, 8, none⟩ (.string v2) = w9 at st9 ⊢
      clear hq st8
      clear p0 p1 p2 p3 p4 p5 p6 p7 p8 fp
      refine (l2DrawNum_any C A B w9 st9.cur low last hl hl2).mono ?_
      rintro e w10 ⟨y, rfl, hyl, hy, hD10, hF10⟩
      have st10 := st9.call hD10 hF10
      clear st9 hD10 hF10
      have hq : (w10.setCell ⟨P, 7, none⟩ (.int .i64 (y : Int))).heap[P]? = some (.cells #[.int .i64 4, .int .i64 (tx : Int), .int .i64 0, .int .i64 0, .int .i64 0, .slice none 0 0, .slice none 0 0, .int .i64 (y : Int), .string v2] 28) := by simp [World.setCell, Array.getElem?_modify, st10.page]
      obtain ⟨q0, q1, q2, q3, q4, q5, q6, q7, q8⟩ := box_page st10.page
      have fp := box_thaw st10.page
      have st11 := st10.set 7 (.int .i64 (y : Int)) hq
      clear hq st10
      obtain ⟨p0, p1, p2, p3, p4, p5, p6, p7, p8⟩ := box_page st11.page
      obtain ⟨r0, r1, r2, r3, r4, r5, r6, r7, r8⟩ := box_page st11.res
      have ff := box_thaw st11.res
      have HB := put9D_box st11.res (.int .i64 4) (.int .i64 (tx : Int)) (.int .i64 0) (.int .i64 0) (.int .i64 0) (.slice none 0 0) (.slice none 0 0) (.int .i64 (y : Int)) (.string v2)
      have hfz := put9D_fr (w10.setCell ⟨P, 7, none⟩ (.int .i64 (y : Int))) w.heap.size (.int .i64 4) (.int .i64 (tx : Int)) (.int .i64 0) (.int .i64 0) (.int .i64 0) (.slice none 0 0) (.slice none 0 0) (.int .i64 (y : Int)) (.string v2)
      have hDZ : DCur (put9D (w10.setCell ⟨P, 7, none⟩ (.int .i64 (y : Int))) w.heap.size (.int .i64 4) (.int .i64 (tx : Int)) (.int .i64 0) (.int .i64 0) (.int .i64 0) (.slice none 0 0) (.slice none 0 0) (.int .i64 (y : Int)) (.string v2)) C A B := st11.cur.frg hfz (fun g e => by omega)
      have hFZ : Fr (fun g => g = C) w (put9D (w10.setCell ⟨P, 7, none⟩ (.int .i64 (y : Int))) w.heap.size (.int .i64 4) (.int .i64 (tx : Int)) (.int .i64 0) (.int .i64 0) (.int .i64 0) (.slice none 0 0) (.slice none 0 0) (.int .i64 (y : Int)) (.string v2)) := st11.fr.up2 hfz (fun g e => by omega)
      go_wp2
      show bodyPost _ _ _ _ _ (put9D (w10.setCell ⟨P, 7, none⟩ (.int .i64 (y : Int))) w.heap.size (.int .i64 4) (.int .i64 (tx : Int)) (.int .i64 0) (.int .i64 0) (.int .i64 0) (.slice none 0 0) (.slice none 0 0) (.int .i64 (y : Int)) (.string v2))
      clear r0 r1 r2 r3 r4 r5 r6 r7 r8
      obtain ⟨r0, r1, r2, r3, r4, r5, r6, r7, r8⟩ := box_page HB
      refine bodyPost_ret (v := .agg #[.int .i64 4, .int .i64 (tx : Int), .int .i64 0, .int .i64 0, .int .i64 0, .slice none 0 0, .slice none 0 0, .int .i64 (y : Int), .string v2]) (by simp [results, Try.results35, go_sem, r0, r1, r2, r3, r4, r5, r6, r7, r8]) rfl ?_
      exact ⟨_, rfl, ⟨⟨4, (tx : Int), 0, 0, 0, [], [], (y : Int), v2⟩, _, _, _, _, rfl, ⟨fit_nat 4 (by omega), fit_nat tx (by omega), fit_nat 0 (by omega), fit_nat 0 (by omega), fit_nat 0 (by omega), fit_nat y (by omega), by unfold maxLen; show v2.size ≤ _; omega⟩, Nat.zero_le _, Nat.zero_le _, (by intro x hx; cases hx), (by intro x hx; cases hx), World.ownsRow_nil _ _ _ _, World.ownsRow_nil _ _ _ _, (fun g h1 h2 => none_ownD _ _ _ h1), ⟨rfl, by simp [bodyOk, overOk, noMeta, inB]; omega⟩⟩, hDZ, hFZ⟩
end Go.Proofs.Ytcmhobbpeaeebaa
