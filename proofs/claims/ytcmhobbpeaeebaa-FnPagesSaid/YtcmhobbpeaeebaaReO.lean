import Derived.Test.YtcmhobbpeaeebaaRkO
namespace Go.Proofs.Ytcmhobbpeaeebaa
namespace Old
open Go.RowKit
set_option linter.unusedVariables false
set_option maxRecDepth 100000

/-- An entry that is read at p, and the place behind it. -/
def entR (bs : List Int) (p : Nat) : PE × Nat :=
  if rN bs (kEnd bs p) 1 = 0 then ((tStr bs p, tStr bs (adv (kEnd bs p) 1), 0, ((tStr bs (adv (kEnd bs p) 1)).size : Int)), tEnd bs (adv (kEnd bs p) 1))
  else ((tStr bs p, ⟨#[]⟩, rN bs (adv (kEnd bs p) 1) (smallN true), rN bs (adv (adv (kEnd bs p) 1) (smallN true)) (smallN true)), adv (adv (adv (kEnd bs p) 1) (smallN true)) (smallN true))
def entsR (bs : List Int) (k : Nat) : Nat → List PE × Nat
  | 0 => ([], k)
  | i + 1 => ((entsR bs k i).1 ++ [(entR bs (entsR bs k i).2).1], (entR bs (entsR bs k i).2).2)
theorem kEnd_le (bs : List Int) (p : Nat) : kEnd bs p ≤ 128 := by unfold kEnd; split <;> exact adv_le _ _
theorem box_four {w : World} {N : Nat} {v0 v1 v2 v3 : Value} {t : TypeId} (h : w.heap[N]? = some (.cells #[v0, v1, v2, v3] t)) : w.cell? ⟨N, 0, none⟩ = some v0 ∧ w.cell? ⟨N, 1, none⟩ = some v1 ∧ w.cell? ⟨N, 2, none⟩ = some v2 ∧ w.cell? ⟨N, 3, none⟩ = some v3 := by
  simp [World.cell?, h]
/-- append(v, entry), as one step of a region that draws. -/
theorem step_ent {w : World} {ops : Array Oper} {o : Oper} {a : Act} {K : Act → World → Prop} {Q : Exit → Act → World → Prop} {E : Prop} (hgd : o.guard = none) (s x : Operand)
    (ho : o.op = .call { callee := .builtin .append, args := #[s, x], argTypes := #[26, 26] })
    (base : Nat) (v : Value) (n : Nat) (xs : List Value) (hs : a.eval s = v) (hown : w.ownsRow base 102 4 v n xs)
    (g : Nat) (u1 u2 : ByteArray) (u3 u4 : Int) (hx : a.eval x = .slice (some ⟨g, 0, none⟩) 1 1) (hg : w.heap[g]? = some (.cells #[.string u1, .string u2, .int .i64 u3, .int .i64 u4] 102)) (hn : n ≤ 1000000) (hbase : base ≤ w.heap.size)
    (h : ∀ v' w', w'.ownsRow base 102 4 v' (n + 1) (xs ++ entCells (u1, u2, u3, u4)) → w.grownBy w' v.ownBlock → K (a.put o.dst v') w') :
    if Region.wanted o (yielded ops a.tmps) = true then Oper.wp Try.prog o a w K Q else E := by
  obtain ⟨i0, hi, hz0, hz1, hz2⟩ := info_parts info_Ent
  refine step_append_own hgd s x 26 ho base 102 i0 _ 4 48 Try.underlying26 hi hz0 hz1 hz2 rfl (by decide) v n xs hs hown ⟨g, 0, none⟩ 1 1 (entCells (u1, u2, u3, u4)) hx rfl ?_ ?_ (by unfold maxLen; omega) (by omega) hbase ?_
  · intro j u hj
    have e : (⟨g, 0, none⟩ : Addr).add j = ⟨g, j, none⟩ := by simp [Addr.add]; omega
    rw [e]
    rcases j with _ | _ | _ | _ | j
    all_goals first
      | (simp [entCells] at hj; done)
      | (simp [entCells] at hj; subst hj; simp [World.cell?, hg])
  · intro u hu; simp [entCells] at hu; rcases hu with rfl | rfl | rfl | rfl <;> rfl
  · intro v' w' h1 h2
    exact h v' w' h1 h2
set_option maxHeartbeats 1600000 in
theorem leafRead_any (C g o c A B : Nat) (bs : List Int) (k M : Nat) (n : Nat) (hn : n ≤ 255) (w : World) (h : RAt w C g o c A B bs k) (hMC : M ≠ C) (hBM : B ≤ M) (hM : w.heap[M]? = some (.cells #[.slice none 0 0] 142)) :
    Calls Try.prog 136 #[.pointer (some ⟨M, 0, none⟩), .pointer (some ⟨C, 0, none⟩), .int .i64 n] w fun e w' => e = .returned (.tuple #[]) ∧ ∃ v, w'.ownsRow w.heap.size 102 4 v n (rowsOf entCells (entsR bs k n).1) ∧ Rd w w' C g o c A B bs (entsR bs k n).2 M (.cells #[v] 142) := by
  have R0 := Rd.start h hM
  have hCl := (Array.getElem?_eq_some_iff.1 h.cur.box).1
  have hMl := (Array.getElem?_eq_some_iff.1 hM).1
  have hBC := h.low
  go_enter Try.func136, Try.ntmps136
  go_wp2_with fail
  go_loopw [8] (fun iv wr => ∃ i : Nat, i ≤ n ∧ iv = .int .i64 i ∧ Hid (∃ v, wr.ownsRow w.heap.size 102 4 v i (rowsOf entCells (entsR bs k i).1) ∧ Rd w wr C g o c A B bs (entsR bs k i).2 M (.cells #[v] 142))) (fun iv _ => n - (intOf iv).toNat)
  case atStart => exact ⟨0, Nat.zero_le _, rfl, ⟨_, World.ownsRow_nil _ _ _ _, R0⟩⟩
  case round =>
    obtain ⟨i, hi, rfl, ⟨v, hO, R⟩⟩ := hrel
    by_cases hlt : i < n
    · have hsw := R.fr.size
      generalize hp : (entsR bs k i).2 = p at R
      have HP : Hid ((entsR bs k i).2 = p) := hp
      clear hp
      go_wp2_with fail
      refine (getKey_any C g o c A B bs p wr R.at').mono ?_
      rintro e w1 ⟨rfl, hM1⟩
      have R1 := R.mv hMC hM1 (kEnd_le _ _)
      have hO1 := owns_fr hO hM1.2 (fun g' e e' => by have := (hO.lt g' e).1; omega)
      have hsw1 := R1.fr.size
      clear hO R hM1 hsw
      have hbK : Below w1.heap.size w1 (w1.alloc (.cells #[.string (tStr bs p), .string ⟨#[]⟩, .int .i64 0, .int .i64 0] 102)) := (Below.refl _ _).alloc (Nat.le_refl _) _
      have hMr := (hbK.block M (by omega)).trans R1.box
      have hOr := owns_below hO1 hbK
      have hfr0 : Fr (fun x => x = C ∨ x = M) w (w1.alloc (.cells #[.string (tStr bs p), .string ⟨#[]⟩, .int .i64 0, .int .i64 0] 102)) := Fr.comp R1.fr (Fr.of_below (S := fun _ => False) hbK) (fun x _ h => h.elim)
      have hAt : RAt (w1.alloc (.cells #[.string (tStr bs p), .string ⟨#[]⟩, .int .i64 0, .int .i64 0] 102)) C g o c A B bs (kEnd bs p) := RAt.keepB R1.at' (Fr.of_below (S := fun _ => False) hbK) (fun h => h) (fun _ _ h => h)
      have RK := Rd.start hAt (heap_alloc_new w1 (.cells #[.string (tStr bs p), .string ⟨#[]⟩, .int .i64 0, .int .i64 0] 102))
      have hKC : w1.heap.size ≠ C := by omega
      have hKM : w1.heap.size ≠ M := by omega
      have hBK : B ≤ w1.heap.size := by have := R1.at'.top; omega
      have hS1 : w1.heap.size < (w1.alloc (.cells #[.string (tStr bs p), .string ⟨#[]⟩, .int .i64 0, .int .i64 0] 102)).heap.size := by simp
      have hKO : ∀ g', v.ownBlock = some g' → g' ≠ w1.heap.size := fun g' e e' => by have := (hO1.lt g' e).2; omega
      have hone := rN_one hAt (kEnd bs p)
      obtain ⟨d0, d1, d2, d3, d4⟩ := hAt.cur.cells
      clear hO1 R1 hbK
      go_wp2_with fail
      generalize w1.alloc (.cells #[.string (tStr bs p), .string ⟨#[]⟩, .int .i64 0, .int .i64 0] 102) = W1 at hMr hOr hfr0 hAt RK hS1 d0 d1 d2 d3 d4 ⊢
      generalize w1.heap.size = K at RK hKC hKM hBK hS1 hKO hsw1 ⊢
      refine (Get C g o c A B bs (kEnd bs p) 1 (by omega) W1 hAt).mono ?_
      rintro e w2 ⟨rfl, hM2⟩
      have RK2 := RK.mv hKC hM2 (adv_le _ _)
      obtain ⟨x0, x1, x2, x3⟩ := box_four (w := w2) (N := K) (by simpa using RK2.box)
      have f2 := box_frozen RK2.box
      clear RK hM2 hAt d0 d1 d2 d3 d4
      by_cases hz : rN bs (kEnd bs p) 1 = 0
      · have HER : Hid (entsR bs k (i + 1) = ((entsR bs k i).1 ++ [(tStr bs p, tStr bs (adv (kEnd bs p) 1), 0, ((tStr bs (adv (kEnd bs p) 1)).size : Int))], tEnd bs (adv (kEnd bs p) 1))) := by
          show entsR bs k (i + 1) = _
          rw [entsR, HP.out, entR, if_pos hz]
        have hzz := hz
        rw [hz]
        go_wp2_with fail
        refine (getText_any C g o c A B bs (adv (kEnd bs p) 1) w2 RK2.at').mono ?_
        rintro e w3 ⟨rfl, hM3⟩
        have RK3 := RK2.mv hKC hM3 (adv_le _ _)
        obtain ⟨y0, y1, y2, y3⟩ := box_four (w := w3) (N := K) (by simpa using RK3.box)
        have f3 := box_frozen RK3.box
        have RK4 := RK3.put hKC hBK 1 (.string (tStr bs (adv (kEnd bs p) 1)))
        have hts := tStr_size RK2.at' (adv (kEnd bs p) 1)
        clear RK2 hM3 RK3 x0 x1 x2 x3 f2
        generalize tStr bs (adv (kEnd bs p) 1) = ts at *
        have RK5 := RK4.put hKC hBK 3 (.int .i64 (ts.size : Int))
        have hMn := (RK5.fr.block M (by omega) (by omega)).trans hMr
        have hOn := owns_fr hOr RK5.fr (fun g' e e' => by have := (hOr.lt g' e).1; have := hKO g' e; omega)
        have hfr5 : Fr (fun x => x = C ∨ x = M) w ((w3.setCell ⟨K, 1, none⟩ (.string ts)).setCell ⟨K, 3, none⟩ (.int .i64 (ts.size : Int))) := Fr.comp hfr0 RK5.fr (fun x hx e => by omega)
        obtain ⟨va, vc, rfl⟩ := own_shape hOn
        have m0 : ((w3.setCell ⟨K, 1, none⟩ (.string ts)).setCell ⟨K, 3, none⟩ (.int .i64 (ts.size : Int))).cell? ⟨M, 0, none⟩ = some (.slice va i vc) := by simp [World.cell?, hMn]
        have BX : ((w3.setCell ⟨K, 1, none⟩ (.string ts)).setCell ⟨K, 3, none⟩ (.int .i64 (ts.size : Int))).heap[K]? = some (.cells #[.string (tStr bs p), .string (ts), .int .i64 (0), .int .i64 ((ts.size : Int))] 102) := by simpa using RK5.box
        obtain ⟨b0, b1, b2, b3⟩ := box_four BX
        have fM := box_frozen hMn
        have hsz5 : w.heap.size ≤ ((w3.setCell ⟨K, 1, none⟩ (.string ts)).setCell ⟨K, 3, none⟩ (.int .i64 (ts.size : Int))).heap.size := hfr5.size
        go_wp2_with fail
        generalize (w3.setCell ⟨K, 1, none⟩ (.string ts)).setCell ⟨K, 3, none⟩ (.int .i64 (ts.size : Int)) = w5 at RK5 hMn hOn hfr5 m0 BX b0 b1 b2 b3 fM hsz5 ⊢
        clear y0 y1 y2 y3 f3 RK4
        have hbL : Below w5.heap.size w5 (w5.drew.alloc (.cells #[.string (tStr bs p), .string (ts), .int .i64 (0), .int .i64 ((ts.size : Int))] 102)) := (Below.refl _ _).drew.alloc (Nat.le_refl _) _
        have hOL := owns_below hOn hbL
        have hgL := heap_alloc_new w5.drew (.cells #[.string (tStr bs p), .string (ts), .int .i64 (0), .int .i64 ((ts.size : Int))] 102)
        have hsL := hbL.size
        have hMr5 := (hbL.block M (by omega)).trans hMn
        have hM5l : M < w5.heap.size := (Array.getElem?_eq_some_iff.1 hMn).1
        have hMO : ∀ g', (Value.slice va i vc).ownBlock = some g' → g' ≠ M := fun g' e e' => by have := (hOn.lt g' e).1; omega
        go_region_law (first
            | (refine step_ent rfl _ _ rfl w.heap.size _ i (rowsOf entCells (entsR bs k i).1) (by simp [Act.eval]) hOL w5.drew.heap.size (tStr bs p) (ts) (0) ((ts.size : Int)) (by simp [Act.eval]) hgL (by omega) (Nat.le_trans hsz5 hsL) ?_; intro v6 w6 hO6 hg6; obtain ⟨va6, vc6, rfl⟩ := own_shape hO6; have hMB6 := (hg6.block M (Nat.lt_of_lt_of_le hM5l hsL) (fun e => hMO M e.symm rfl)).trans hMr5; have n0 : w6.cell? ⟨M, 0, none⟩ = some (.slice va i vc) := (by simp [World.cell?, hMB6]); have nf := box_frozen hMB6))
        all_goals
          have atL := RAt.keepB RK5.at' (Fr.of_below (S := fun _ => False) hbL) (fun h => h) (fun _ _ h => h)
          have at6 := RAt.keepB atL (Fr.of_grown hg6) (fun e => by have := (hOL.lt C e).1; omega) (fun x hx e => by have := (hOL.lt x e).1; omega)
          have fr6 : Fr (fun x => x = C ∨ x = M) w w6 := Fr.comp (Fr.comp hfr5 (Fr.of_below (S := fun _ => False) hbL) (fun _ _ h => h.elim)) (Fr.of_grown hg6) (fun x hx e => by have := (hOL.lt x e).1; omega)
          have R7 : Hid (Rd w (w6.setCell ⟨M, 0, none⟩ (.slice va6 (i + 1) vc6)) C g o c A B bs (tEnd bs (adv (kEnd bs p) 1)) M (.cells #[.slice va6 (i + 1) vc6] 142)) := by
            have := Rd.put ⟨at6, hMB6, fr6⟩ hMC hBM 0 (.slice va6 (i + 1) vc6)
            show Rd _ _ _ _ _ _ _ _ _ _ _ _
            simpa using this
          have O7 : Hid ((w6.setCell ⟨M, 0, none⟩ (.slice va6 (i + 1) vc6)).ownsRow w.heap.size 102 4 (.slice va6 (i + 1) vc6) (i + 1) (rowsOf entCells (entsR bs k i).1 ++ entCells (tStr bs p, ts, 0, (ts.size : Int)))) := owns_set hO6 (p := ⟨M, 0, none⟩) (fun g' e => by have := (hO6.lt g' e).1; show M ≠ g'; omega) _
          clear atL at6 fr6 RK5 hOn hOL hMn hMr5 hfr5 hbL hgL hMB6 hg6 hO6 n0 nf m0 b0 b1 b2 b3 fM hOr hMr hfr0
          go_wp2
          go_roundw
          case rel =>
            refine ⟨i + 1, by omega, by go_num, ⟨.slice va6 (i + 1) vc6, ?_, ?_⟩⟩
            · rw [HER.out, rows_snoc]; exact O7.out
            · rw [HER.out]; exact R7.out
          case measure => simp [intOf]; omega
      · have HER : Hid (entsR bs k (i + 1) = ((entsR bs k i).1 ++ [(tStr bs p, ⟨#[]⟩, rN bs (adv (kEnd bs p) 1) (smallN true), rN bs (adv (adv (kEnd bs p) 1) (smallN true)) (smallN true))], adv (adv (adv (kEnd bs p) 1) (smallN true)) (smallN true))) := by
          show entsR bs k (i + 1) = _
          rw [entsR, HP.out, entR, if_neg hz]
        have hzz : decide (rN bs (kEnd bs p) 1 = 0) = false := by simpa using hz
        go_wp2_with fail
        refine (getSmall_any C g o c A B bs (adv (kEnd bs p) 1) w2 RK2.at').mono ?_
        rintro e w3 ⟨rfl, hM3⟩
        have RK3 := RK2.mv hKC hM3 (adv_le _ _)
        obtain ⟨y0, y1, y2, y3⟩ := box_four (w := w3) (N := K) (by simpa using RK3.box)
        have f3 := box_frozen RK3.box
        have RK4 := RK3.put hKC hBK 2 (.int .i64 (rN bs (adv (kEnd bs p) 1) (smallN true)))
        clear RK2 hM3 RK3 x0 x1 x2 x3 f2 hz hzz hone
        generalize rN bs (adv (kEnd bs p) 1) (smallN true) = ov at *
        go_wp2_with fail
        clear y0 y1 y2 y3 f3
        generalize w3.setCell ⟨K, 2, none⟩ (.int .i64 ov) = w3b at RK4 ⊢
        refine (getSmall_any C g o c A B bs (adv (adv (kEnd bs p) 1) (smallN true)) w3b RK4.at').mono ?_
        rintro e w4 ⟨rfl, hM4⟩
        have RK4b := RK4.mv hKC hM4 (adv_le _ _)
        obtain ⟨y0, y1, y2, y3⟩ := box_four (w := w4) (N := K) (by simpa using RK4b.box)
        have f4 := box_frozen RK4b.box
        have RK5 := RK4b.put hKC hBK 3 (.int .i64 (rN bs (adv (adv (kEnd bs p) 1) (smallN true)) (smallN true)))
        clear RK4 hM4 RK4b
        generalize rN bs (adv (adv (kEnd bs p) 1) (smallN true)) (smallN true) = sz at *
        have hMn := (RK5.fr.block M (by omega) (by omega)).trans hMr
        have hOn := owns_fr hOr RK5.fr (fun g' e e' => by have := (hOr.lt g' e).1; have := hKO g' e; omega)
        have hfr5 : Fr (fun x => x = C ∨ x = M) w (w4.setCell ⟨K, 3, none⟩ (.int .i64 sz)) := Fr.comp hfr0 RK5.fr (fun x hx e => by omega)
        obtain ⟨va, vc, rfl⟩ := own_shape hOn
        have m0 : (w4.setCell ⟨K, 3, none⟩ (.int .i64 sz)).cell? ⟨M, 0, none⟩ = some (.slice va i vc) := by simp [World.cell?, hMn]
        have BX : (w4.setCell ⟨K, 3, none⟩ (.int .i64 sz)).heap[K]? = some (.cells #[.string (tStr bs p), .string (⟨#[]⟩), .int .i64 (ov), .int .i64 (sz)] 102) := by simpa using RK5.box
        obtain ⟨b0, b1, b2, b3⟩ := box_four BX
        have fM := box_frozen hMn
        have hsz5 : w.heap.size ≤ (w4.setCell ⟨K, 3, none⟩ (.int .i64 sz)).heap.size := hfr5.size
        go_wp2_with fail
        generalize w4.setCell ⟨K, 3, none⟩ (.int .i64 sz) = w5 at RK5 hMn hOn hfr5 m0 BX b0 b1 b2 b3 fM hsz5 ⊢
        clear y0 y1 y2 y3 f4
        have hbL : Below w5.heap.size w5 (w5.drew.alloc (.cells #[.string (tStr bs p), .string (⟨#[]⟩), .int .i64 (ov), .int .i64 (sz)] 102)) := (Below.refl _ _).drew.alloc (Nat.le_refl _) _
        have hOL := owns_below hOn hbL
        have hgL := heap_alloc_new w5.drew (.cells #[.string (tStr bs p), .string (⟨#[]⟩), .int .i64 (ov), .int .i64 (sz)] 102)
        have hsL := hbL.size
        have hMr5 := (hbL.block M (by omega)).trans hMn
        have hM5l : M < w5.heap.size := (Array.getElem?_eq_some_iff.1 hMn).1
        have hMO : ∀ g', (Value.slice va i vc).ownBlock = some g' → g' ≠ M := fun g' e e' => by have := (hOn.lt g' e).1; omega
        go_region_law (first
            | (refine step_ent rfl _ _ rfl w.heap.size _ i (rowsOf entCells (entsR bs k i).1) (by simp [Act.eval]) hOL w5.drew.heap.size (tStr bs p) (⟨#[]⟩) (ov) (sz) (by simp [Act.eval]) hgL (by omega) (Nat.le_trans hsz5 hsL) ?_; intro v6 w6 hO6 hg6; obtain ⟨va6, vc6, rfl⟩ := own_shape hO6; have hMB6 := (hg6.block M (Nat.lt_of_lt_of_le hM5l hsL) (fun e => hMO M e.symm rfl)).trans hMr5; have n0 : w6.cell? ⟨M, 0, none⟩ = some (.slice va i vc) := (by simp [World.cell?, hMB6]); have nf := box_frozen hMB6))
        all_goals
          have atL := RAt.keepB RK5.at' (Fr.of_below (S := fun _ => False) hbL) (fun h => h) (fun _ _ h => h)
          have at6 := RAt.keepB atL (Fr.of_grown hg6) (fun e => by have := (hOL.lt C e).1; omega) (fun x hx e => by have := (hOL.lt x e).1; omega)
          have fr6 : Fr (fun x => x = C ∨ x = M) w w6 := Fr.comp (Fr.comp hfr5 (Fr.of_below (S := fun _ => False) hbL) (fun _ _ h => h.elim)) (Fr.of_grown hg6) (fun x hx e => by have := (hOL.lt x e).1; omega)
          have R7 : Hid (Rd w (w6.setCell ⟨M, 0, none⟩ (.slice va6 (i + 1) vc6)) C g o c A B bs (adv (adv (adv (kEnd bs p) 1) (smallN true)) (smallN true)) M (.cells #[.slice va6 (i + 1) vc6] 142)) := by
            have := Rd.put ⟨at6, hMB6, fr6⟩ hMC hBM 0 (.slice va6 (i + 1) vc6)
            show Rd _ _ _ _ _ _ _ _ _ _ _ _
            simpa using this
          have O7 : Hid ((w6.setCell ⟨M, 0, none⟩ (.slice va6 (i + 1) vc6)).ownsRow w.heap.size 102 4 (.slice va6 (i + 1) vc6) (i + 1) (rowsOf entCells (entsR bs k i).1 ++ entCells (tStr bs p, ⟨#[]⟩, ov, sz))) := owns_set hO6 (p := ⟨M, 0, none⟩) (fun g' e => by have := (hO6.lt g' e).1; show M ≠ g'; omega) _
          clear atL at6 fr6 RK5 hOn hOL hMn hMr5 hfr5 hbL hgL hMB6 hg6 hO6 n0 nf m0 b0 b1 b2 b3 fM hOr hMr hfr0
          go_wp2
          go_roundw
          case rel =>
            refine ⟨i + 1, by omega, by go_num, ⟨.slice va6 (i + 1) vc6, ?_, ?_⟩⟩
            · rw [HER.out, rows_snoc]; exact O7.out
            · rw [HER.out]; exact R7.out
          case measure => simp [intOf]; omega
    · go_wp2
      go_end0
      obtain rfl : i = n := by omega
      exact ⟨rfl, v, hO, R⟩
end Old
end Go.Proofs.Ytcmhobbpeaeebaa
