import Derived.Test.YtcmhobbpeaeebaaGAV
import Derived.Test.YtcmhobbpeaeebaaGBC
namespace Go.Proofs.Ytcmhobbpeaeebaa
namespace Old
open Go.RowKit
set_option linter.unusedVariables false
set_option maxRecDepth 100000

/-- What a round of reading kids brings: the separator, the page, the place behind. -/
def kSep (bs : List Int) (i p : Nat) : ByteArray := if 0 < i then tStr bs p else ByteArray.empty
def kMid (bs : List Int) (i p : Nat) : Nat := if 0 < i then tEnd bs p else p
def kidsR (bs : List Int) (k : Nat) : Nat → List PK × Nat
  | 0 => ([], k)
  | i + 1 => ((kidsR bs k i).1 ++ [(kSep bs i (kidsR bs k i).2, rN bs (kMid bs i (kidsR bs k i).2) (smallN true))], adv (kMid bs i (kidsR bs k i).2) (smallN true))
theorem Fr.comp {S T : Nat → Prop} {a b c : World} (h : Fr S a b) (k : Fr T b c) (hst : ∀ x, x < a.heap.size → T x → S x) : Fr S a c :=
  ⟨k.1.trans h.1, k.2.trans h.2, k.3.trans h.3, Nat.le_trans h.size k.size, fun x hx hS => (k.block x (Nat.lt_of_lt_of_le hx h.size) (fun ht => hS (hst x hx ht))).trans (h.block x hx hS)⟩
theorem Fr.of_grown {w w' : World} {row : Option Nat} (h : w.grownBy w' row) : Fr (fun x => row = some x) w w' :=
  ⟨h.1, h.2, h.3, h.size, fun x hx hS => h.block x hx (fun e => hS e.symm)⟩
theorem RAt.keepB {w w' : World} {C g o c A B : Nat} {bs : List Int} {k : Nat} {S : Nat → Prop} (h : RAt w C g o c A B bs k) (hf : Fr S w w') (hC : ¬ S C) (hS : ∀ x, x < B → ¬ S x) : RAt w' C g o c A B bs k :=
  ⟨⟨(hf.block C (Array.getElem?_eq_some_iff.1 h.cur.box).1 hC).trans h.cur.box⟩, h.byt.keep (fun x k1 k2 => hf.block x (Nat.lt_of_lt_of_le k2 h.top) (hS x k2)), h.low, Nat.le_trans h.top hf.size, h.pos⟩
theorem rows_snoc {α : Type} (cs : α → List Value) (l : List α) (x : α) : rowsOf cs (l ++ [x]) = rowsOf cs l ++ cs x := by simp [rowsOf]
/-- append(v, kid), as one step of a region that draws. -/
theorem step_kid {w : World} {ops : Array Oper} {o : Oper} {a : Act} {K : Act → World → Prop} {Q : Exit → Act → World → Prop} {E : Prop} (hgd : o.guard = none) (s x : Operand)
    (ho : o.op = .call { callee := .builtin .append, args := #[s, x], argTypes := #[25, 25] })
    (base : Nat) (v : Value) (n : Nat) (xs : List Value) (hs : a.eval s = v) (hown : w.ownsRow base 100 2 v n xs)
    (g : Nat) (u1 : ByteArray) (u2 : Int) (hx : a.eval x = .slice (some ⟨g, 0, none⟩) 1 1) (hg : w.heap[g]? = some (.cells #[.string u1, .int .i64 u2] 100)) (hn : n ≤ 1000000) (hbase : base ≤ w.heap.size)
    (h : ∀ v' w', w'.ownsRow base 100 2 v' (n + 1) (xs ++ kidCells (u1, u2)) → w.grownBy w' v.ownBlock → K (a.put o.dst v') w') :
    if Region.wanted o (yielded ops a.tmps) = true then Oper.wp Try.prog o a w K Q else E := by
  obtain ⟨i0, hi, hz0, hz1, hz2⟩ := info_parts info_Kid
  refine step_append_own hgd s x 25 ho base 100 i0 _ 2 24 Try.underlying25 hi hz0 hz1 hz2 rfl (by decide) v n xs hs hown ⟨g, 0, none⟩ 1 1 (kidCells (u1, u2)) hx rfl ?_ ?_ (by unfold maxLen; omega) (by omega) hbase ?_
  · intro j u hj
    have e : (⟨g, 0, none⟩ : Addr).add j = ⟨g, j, none⟩ := by simp [Addr.add]; omega
    rw [e]
    rcases j with _ | _ | j
    all_goals first
      | (simp [kidCells] at hj; done)
      | (simp [kidCells] at hj; subst hj; simp [World.cell?, hg])
  · intro u hu; simp [kidCells] at hu; rcases hu with rfl | rfl <;> rfl
  · intro v' w' h1 h2
    exact h v' w' h1 h2
set_option maxHeartbeats 1600000 in
theorem branchRead_any (C g o c A B : Nat) (bs : List Int) (k M : Nat) (n : Nat) (hn : n ≤ 255) (w : World) (h : RAt w C g o c A B bs k) (hMC : M ≠ C) (hBM : B ≤ M) (hM : w.heap[M]? = some (.cells #[.slice none 0 0] 139)) :
    Calls Try.prog 128 #[.pointer (some ⟨M, 0, none⟩), .pointer (some ⟨C, 0, none⟩), .int .i64 n] w fun e w' => e = .returned (.tuple #[]) ∧ ∃ v, w'.ownsRow w.heap.size 100 2 v n (rowsOf kidCells (kidsR bs k n).1) ∧ Rd w w' C g o c A B bs (kidsR bs k n).2 M (.cells #[v] 139) := by
  have R0 := Rd.start h hM
  have hCl := (Array.getElem?_eq_some_iff.1 h.cur.box).1
  have hMl := (Array.getElem?_eq_some_iff.1 hM).1
  have hBC := h.low
  go_enter Try.func128, Try.ntmps128
  go_wp2_with fail
  go_loopw [9] (fun iv wr => ∃ i : Nat, i ≤ n ∧ iv = .int .i64 i ∧ Hid (∃ v, wr.ownsRow w.heap.size 100 2 v i (rowsOf kidCells (kidsR bs k i).1) ∧ Rd w wr C g o c A B bs (kidsR bs k i).2 M (.cells #[v] 139))) (fun iv _ => n - (intOf iv).toNat)
  case atStart => exact ⟨0, Nat.zero_le _, rfl, ⟨_, World.ownsRow_nil _ _ _ _, R0⟩⟩
  case round =>
    obtain ⟨i, hi, rfl, ⟨v, hO, R⟩⟩ := hrel
    by_cases hlt : i < n
    · have hsw := R.fr.size
      have hbK : Below wr.heap.size wr (wr.alloc (.cells #[.string ⟨#[]⟩, .int .i64 0] 100)) := (Below.refl _ _).alloc (Nat.le_refl _) _
      have hMr := (hbK.block M (by omega)).trans R.box
      have hOr := owns_below hO hbK
      have hfr0 : Fr (fun x => x = C ∨ x = M) w (wr.alloc (.cells #[.string ⟨#[]⟩, .int .i64 0] 100)) := Fr.comp R.fr (Fr.of_below (S := fun _ => False) hbK) (fun x _ h => h.elim)
      have hAt : RAt (wr.alloc (.cells #[.string ⟨#[]⟩, .int .i64 0] 100)) C g o c A B bs (kidsR bs k i).2 := RAt.keepB R.at' (Fr.of_below (S := fun _ => False) hbK) (fun h => h) (fun _ _ h => h)
      have RK := Rd.start hAt (heap_alloc_new wr (.cells #[.string ⟨#[]⟩, .int .i64 0] 100))
      have hKC : wr.heap.size ≠ C := by omega
      have hKM : wr.heap.size ≠ M := by omega
      have hBK : B ≤ wr.heap.size := by have := R.at'.top; omega
      have hS1 : wr.heap.size < (wr.alloc (.cells #[.string ⟨#[]⟩, .int .i64 0] 100)).heap.size := by simp
      have hO0 := hO
      clear hO R
      generalize hp : (kidsR bs k i).2 = p at RK hAt
      have HP : Hid ((kidsR bs k i).2 = p) := hp
      clear hp
      have hKO : ∀ g', v.ownBlock = some g' → g' ≠ wr.heap.size := fun g' e e' => by have := (hO0.lt g' e).2; omega
      clear hO0
      clear hbK
      by_cases h0 : 0 < i
      · have HKR : Hid (kidsR bs k (i + 1) = ((kidsR bs k i).1 ++ [(tStr bs p, rN bs (tEnd bs p) (smallN true))], adv (tEnd bs p) (smallN true))) := by
          show kidsR bs k (i + 1) = _
          rw [kidsR, HP.out, kSep, kMid, if_pos h0, if_pos h0]
        go_wp2_with fail
        generalize wr.alloc (.cells #[.string ⟨#[]⟩, .int .i64 0] 100) = W1 at hMr hOr hfr0 hAt RK hS1 ⊢
        generalize wr.heap.size = K at RK hKC hKM hBK hS1 hKO hsw ⊢
        refine (getText_any C g o c A B bs p W1 hAt).mono ?_
        rintro e w2 ⟨rfl, hM2⟩
        have RK2 := RK.mv hKC hM2 (adv_le _ _)
        obtain ⟨x0, x1⟩ := box_two2 RK2.box
        have f2 := box_frozen RK2.box
        have RK3 := RK2.put hKC hBK 0 (.string (tStr bs p))
        clear RK hM2 RK2
        go_wp2_with fail
        clear x0 x1 f2
        generalize w2.setCell ⟨K, 0, none⟩ (.string (tStr bs p)) = w3 at RK3 ⊢
        refine (getSmall_any C g o c A B bs (tEnd bs p) w3 RK3.at').mono ?_
        rintro e w4 ⟨rfl, hM4⟩
        have RK4 := RK3.mv hKC hM4 (adv_le _ _)
        obtain ⟨x0, x1⟩ := box_two2 (w := w4) (N := K) (by simpa using RK4.box)
        have f4 := box_frozen RK4.box
        have RK5 := RK4.put hKC hBK 1 (.int .i64 (rN bs (tEnd bs p) (smallN true)))
        clear RK3 hM4 RK4
        have hMn := (RK5.fr.block M (by omega) (by omega)).trans hMr
        have hOn := owns_fr hOr RK5.fr (fun g' e e' => by have := (hOr.lt g' e).1; have := hKO g' e; omega)
        have hfr5 : Fr (fun x => x = C ∨ x = M) w (w4.setCell ⟨K, 1, none⟩ (.int .i64 (rN bs (tEnd bs p) (smallN true)))) := Fr.comp hfr0 RK5.fr (fun x hx e => by omega)
        obtain ⟨va, vc, rfl⟩ := own_shape hOn
        have m0 : (w4.setCell ⟨K, 1, none⟩ (.int .i64 (rN bs (tEnd bs p) (smallN true)))).cell? ⟨M, 0, none⟩ = some (.slice va i vc) := by simp [World.cell?, hMn]
        obtain ⟨y0, y1⟩ := box_two2 (w := w4.setCell ⟨K, 1, none⟩ (.int .i64 (rN bs (tEnd bs p) (smallN true)))) (N := K) (by simpa using RK5.box)
        have fM := box_frozen hMn
        have hsz5 : w.heap.size ≤ (w4.setCell ⟨K, 1, none⟩ (.int .i64 (rN bs (tEnd bs p) (smallN true)))).heap.size := hfr5.size
        go_wp2_with fail
        generalize w4.setCell ⟨K, 1, none⟩ (.int .i64 (rN bs (tEnd bs p) (smallN true))) = w5 at RK5 hMn hOn hfr5 m0 y0 y1 fM hsz5 ⊢
        clear x0 x1 f4
        have hbL : Below w5.heap.size w5 (w5.drew.alloc (.cells #[.string (tStr bs p), .int .i64 (rN bs (tEnd bs p) (smallN true))] 100)) := (Below.refl _ _).drew.alloc (Nat.le_refl _) _
        have hOL := owns_below hOn hbL
        have hgL := heap_alloc_new w5.drew (.cells #[.string (tStr bs p), .int .i64 (rN bs (tEnd bs p) (smallN true))] 100)
        have hsL := hbL.size
        have hMr5 := (hbL.block M (by omega)).trans hMn
        have hM5l : M < w5.heap.size := (Array.getElem?_eq_some_iff.1 hMn).1
        have hMO : ∀ g', (Value.slice va i vc).ownBlock = some g' → g' ≠ M := fun g' e e' => by have := (hOn.lt g' e).1; omega
        go_region_law (first
            | (refine step_kid rfl _ _ rfl w.heap.size _ i (rowsOf kidCells (kidsR bs k i).1) (by simp [Act.eval]) hOL w5.drew.heap.size (tStr bs p) (rN bs (tEnd bs p) (smallN true)) (by simp [Act.eval]) hgL (by omega) (Nat.le_trans hsz5 hsL) ?_; intro v6 w6 hO6 hg6; obtain ⟨va6, vc6, rfl⟩ := own_shape hO6; have hMB6 := (hg6.block M (Nat.lt_of_lt_of_le hM5l hsL) (fun e => hMO M e.symm rfl)).trans hMr5; have n0 : w6.cell? ⟨M, 0, none⟩ = some (.slice va i vc) := (by simp [World.cell?, hMB6]); have nf := box_frozen hMB6))
        all_goals
          have atL := RAt.keepB RK5.at' (Fr.of_below (S := fun _ => False) hbL) (fun h => h) (fun _ _ h => h)
          have at6 := RAt.keepB atL (Fr.of_grown hg6) (fun e => by have := (hOL.lt C e).1; omega) (fun x hx e => by have := (hOL.lt x e).1; omega)
          have fr6 : Fr (fun x => x = C ∨ x = M) w w6 := Fr.comp (Fr.comp hfr5 (Fr.of_below (S := fun _ => False) hbL) (fun _ _ h => h.elim)) (Fr.of_grown hg6) (fun x hx e => by have := (hOL.lt x e).1; omega)
          have R7 : Hid (Rd w (w6.setCell ⟨M, 0, none⟩ (.slice va6 (i + 1) vc6)) C g o c A B bs (adv (tEnd bs p) (smallN true)) M (.cells #[.slice va6 (i + 1) vc6] 139)) := by
            have := Rd.put ⟨at6, hMB6, fr6⟩ hMC hBM 0 (.slice va6 (i + 1) vc6)
            show Rd _ _ _ _ _ _ _ _ _ _ _ _
            simpa using this
          have O7 : Hid ((w6.setCell ⟨M, 0, none⟩ (.slice va6 (i + 1) vc6)).ownsRow w.heap.size 100 2 (.slice va6 (i + 1) vc6) (i + 1) (rowsOf kidCells (kidsR bs k i).1 ++ kidCells (tStr bs p, rN bs (tEnd bs p) (smallN true)))) := owns_set hO6 (p := ⟨M, 0, none⟩) (fun g' e => by have := (hO6.lt g' e).1; show M ≠ g'; omega) _
          clear atL at6 fr6 RK5 hOn hOL hMn hMr5 hfr5 hbL hgL hMB6 hg6 hO6 n0 nf m0 y0 y1 fM hOr hMr hfr0 hAt
          go_wp2
          go_roundw
          case rel =>
            refine ⟨i + 1, by omega, by go_num, ⟨.slice va6 (i + 1) vc6, ?_, ?_⟩⟩
            · rw [HKR.out, rows_snoc]; exact O7.out
            · rw [HKR.out]; exact R7.out
          case measure => simp [intOf]; omega
      · have HKR : Hid (kidsR bs k (i + 1) = ((kidsR bs k i).1 ++ [(⟨#[]⟩, rN bs (p) (smallN true))], adv (p) (smallN true))) := by
          show kidsR bs k (i + 1) = _
          rw [kidsR, HP.out, kSep, kMid, if_neg h0, if_neg h0]; rfl
        go_wp2_with fail
        generalize wr.alloc (.cells #[.string ⟨#[]⟩, .int .i64 0] 100) = W1 at hMr hOr hfr0 hAt RK hS1 ⊢
        generalize wr.heap.size = K at RK hKC hKM hBK hS1 hKO hsw ⊢
        refine (getSmall_any C g o c A B bs (p) W1 RK.at').mono ?_
        rintro e w4 ⟨rfl, hM4⟩
        have RK4 := RK.mv hKC hM4 (adv_le _ _)
        obtain ⟨x0, x1⟩ := box_two2 (w := w4) (N := K) (by simpa using RK4.box)
        have f4 := box_frozen RK4.box
        have RK5 := RK4.put hKC hBK 1 (.int .i64 (rN bs (p) (smallN true)))
        clear RK hM4 RK4
        have hMn := (RK5.fr.block M (by omega) (by omega)).trans hMr
        have hOn := owns_fr hOr RK5.fr (fun g' e e' => by have := (hOr.lt g' e).1; have := hKO g' e; omega)
        have hfr5 : Fr (fun x => x = C ∨ x = M) w (w4.setCell ⟨K, 1, none⟩ (.int .i64 (rN bs (p) (smallN true)))) := Fr.comp hfr0 RK5.fr (fun x hx e => by omega)
        obtain ⟨va, vc, rfl⟩ := own_shape hOn
        have m0 : (w4.setCell ⟨K, 1, none⟩ (.int .i64 (rN bs (p) (smallN true)))).cell? ⟨M, 0, none⟩ = some (.slice va i vc) := by simp [World.cell?, hMn]
        obtain ⟨y0, y1⟩ := box_two2 (w := w4.setCell ⟨K, 1, none⟩ (.int .i64 (rN bs (p) (smallN true)))) (N := K) (by simpa using RK5.box)
        have fM := box_frozen hMn
        have hsz5 : w.heap.size ≤ (w4.setCell ⟨K, 1, none⟩ (.int .i64 (rN bs (p) (smallN true)))).heap.size := hfr5.size
        go_wp2_with fail
        generalize w4.setCell ⟨K, 1, none⟩ (.int .i64 (rN bs (p) (smallN true))) = w5 at RK5 hMn hOn hfr5 m0 y0 y1 fM hsz5 ⊢
        clear x0 x1 f4
        have hbL : Below w5.heap.size w5 (w5.drew.alloc (.cells #[.string (⟨#[]⟩), .int .i64 (rN bs (p) (smallN true))] 100)) := (Below.refl _ _).drew.alloc (Nat.le_refl _) _
        have hOL := owns_below hOn hbL
        have hgL := heap_alloc_new w5.drew (.cells #[.string (⟨#[]⟩), .int .i64 (rN bs (p) (smallN true))] 100)
        have hsL := hbL.size
        have hMr5 := (hbL.block M (by omega)).trans hMn
        have hM5l : M < w5.heap.size := (Array.getElem?_eq_some_iff.1 hMn).1
        have hMO : ∀ g', (Value.slice va i vc).ownBlock = some g' → g' ≠ M := fun g' e e' => by have := (hOn.lt g' e).1; omega
        go_region_law (first
            | (refine step_kid rfl _ _ rfl w.heap.size _ i (rowsOf kidCells (kidsR bs k i).1) (by simp [Act.eval]) hOL w5.drew.heap.size (⟨#[]⟩) (rN bs (p) (smallN true)) (by simp [Act.eval]) hgL (by omega) (Nat.le_trans hsz5 hsL) ?_; intro v6 w6 hO6 hg6; obtain ⟨va6, vc6, rfl⟩ := own_shape hO6; have hMB6 := (hg6.block M (Nat.lt_of_lt_of_le hM5l hsL) (fun e => hMO M e.symm rfl)).trans hMr5; have n0 : w6.cell? ⟨M, 0, none⟩ = some (.slice va i vc) := (by simp [World.cell?, hMB6]); have nf := box_frozen hMB6))
        all_goals
          have atL := RAt.keepB RK5.at' (Fr.of_below (S := fun _ => False) hbL) (fun h => h) (fun _ _ h => h)
          have at6 := RAt.keepB atL (Fr.of_grown hg6) (fun e => by have := (hOL.lt C e).1; omega) (fun x hx e => by have := (hOL.lt x e).1; omega)
          have fr6 : Fr (fun x => x = C ∨ x = M) w w6 := Fr.comp (Fr.comp hfr5 (Fr.of_below (S := fun _ => False) hbL) (fun _ _ h => h.elim)) (Fr.of_grown hg6) (fun x hx e => by have := (hOL.lt x e).1; omega)
          have R7 : Hid (Rd w (w6.setCell ⟨M, 0, none⟩ (.slice va6 (i + 1) vc6)) C g o c A B bs (adv (p) (smallN true)) M (.cells #[.slice va6 (i + 1) vc6] 139)) := by
            have := Rd.put ⟨at6, hMB6, fr6⟩ hMC hBM 0 (.slice va6 (i + 1) vc6)
            show Rd _ _ _ _ _ _ _ _ _ _ _ _
            simpa using this
          have O7 : Hid ((w6.setCell ⟨M, 0, none⟩ (.slice va6 (i + 1) vc6)).ownsRow w.heap.size 100 2 (.slice va6 (i + 1) vc6) (i + 1) (rowsOf kidCells (kidsR bs k i).1 ++ kidCells (⟨#[]⟩, rN bs (p) (smallN true)))) := owns_set hO6 (p := ⟨M, 0, none⟩) (fun g' e => by have := (hO6.lt g' e).1; show M ≠ g'; omega) _
          clear atL at6 fr6 RK5 hOn hOL hMn hMr5 hfr5 hbL hgL hMB6 hg6 hO6 n0 nf m0 y0 y1 fM hOr hMr hfr0 hAt
          go_wp2
          go_roundw
          case rel =>
            refine ⟨i + 1, by omega, by go_num, ⟨.slice va6 (i + 1) vc6, ?_, ?_⟩⟩
            · rw [HKR.out, rows_snoc]; exact O7.out
            · rw [HKR.out]; exact R7.out
          case measure => simp [intOf]; omega
    · go_wp2
      go_end0
      obtain rfl : i = n := by omega
      exact ⟨rfl, v, hO, R⟩
end Old
end Go.Proofs.Ytcmhobbpeaeebaa
