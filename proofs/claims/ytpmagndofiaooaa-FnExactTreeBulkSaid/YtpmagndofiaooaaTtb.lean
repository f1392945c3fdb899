import Derived.Test.YtpmagndofiaooaaAp2
import Derived.Test.YtpmagndofiaooaaTta
import Derived.Test.YtpmagndofiaooaaTga
import Derived.Test.YtpmagndofiaooaaTlg
namespace Go.Proofs.Ytpmagndofiaooaa
open Go.RowKit
set_option linter.unusedVariables false
set_option linter.unusedSimpArgs false
set_option maxRecDepth 100000

/-- The four lists of a node that is being told. -/
structure LL (w : World) (M : Nat) (u : Nat → Value) (l : Nat → List Value) : Prop where
  row : ∀ r, r < 4 → w.ownsRow M (ety r) 1 (u r) (l r).length (l r)
  apart : ∀ r s, r < 4 → s < 4 → r ≠ s → ∀ g, (u r).ownBlock = some g → (u s).ownBlock ≠ some g
theorem LL.fr {S : Nat → Prop} {w w' : World} {M : Nat} {u : Nat → Value} {l : Nat → List Value} (h : LL w M u l) (hf : Fr S w w') (hS : ∀ g, M ≤ g → g < w.heap.size → ¬ S g) : LL w' M u l :=
  ⟨fun r hr => owns_fr (h.row r hr) hf (fun g hg => hS g ((h.row r hr).lt g hg).1 ((h.row r hr).lt g hg).2), h.apart⟩
theorem LL.below {w w' : World} {M : Nat} {u : Nat → Value} {l : Nat → List Value} (h : LL w M u l) (hb : Below w.heap.size w w') : LL w' M u l := h.fr (S := fun _ => False) (Fr.of_below hb) (fun _ _ _ e => e)
theorem LL.nil (w : World) (M : Nat) : LL w M (fun _ => .slice none 0 0) (fun _ => []) :=
  ⟨fun r hr => World.ownsRow_nil _ _ _ _, fun r s _ _ _ g hg => by simp [Value.ownBlock] at hg⟩
theorem LL.app {w w2 : World} {M q : Nat} {u : Nat → Value} {l : Nat → List Value} {v' : Value} {zs : List Value} (h : LL w M u l) (hq : q < 4) (hr : w2.ownsRow M (ety q) 1 v' zs.length zs) (hgr : w.grownBy w2 (u q).ownBlock) (hat : v'.ownBlock = (u q).ownBlock ∨ ∀ b, v'.ownBlock = some b → w.heap.size ≤ b) :
    LL w2 M (fun r => if r = q then v' else u r) (fun r => if r = q then zs else l r) := by
  have hf2 : Fr (fun b => (u q).ownBlock = some b) w w2 := Fr.of_grown hgr (fun b e => e)
  have hoth : ∀ r, r < 4 → r ≠ q → ∀ b, (u r).ownBlock = some b → v'.ownBlock ≠ some b := fun r hr2 hne b hb => by
    rcases hat with e | e
    · rw [e]; exact h.apart r q hr2 hq hne b hb
    · intro e2; have := e b e2; have := (h.row r hr2).lt b hb; omega
  refine ⟨fun r hr2 => ?_, fun r s hr2 hs hne g hg => ?_⟩
  · by_cases hrq : r = q
    · subst hrq; simp only [if_true]; exact hr
    · simp only [hrq, if_false]
      exact owns_fr (h.row r hr2) hf2 (fun g hg e => h.apart r q hr2 hq hrq g hg e)
  · by_cases h1 : r = q <;> by_cases h2 : s = q
    · omega
    · simp only [h1, if_true] at hg
      simp only [h2, if_false]
      exact fun e => hoth s hs h2 g e hg
    · simp only [h1, if_false] at hg
      simp only [h2, if_true]
      exact hoth r hr2 h1 g hg
    · simp only [h1, if_false] at hg
      simp only [h2, if_false]
      exact h.apart r s hr2 hs hne g hg
theorem box_sixT {w : World} {N : Nat} {v0 v1 v2 v3 v4 v5 : Value} {t : TypeId} (h : w.heap[N]? = some (.cells #[v0, v1, v2, v3, v4, v5] t)) : w.cell? ⟨N, 0, none⟩ = some v0 ∧ w.cell? ⟨N, 1, none⟩ = some v1 ∧ w.cell? ⟨N, 2, none⟩ = some v2 ∧ w.cell? ⟨N, 3, none⟩ = some v3 ∧ w.cell? ⟨N, 4, none⟩ = some v4 ∧ w.cell? ⟨N, 5, none⟩ = some v5 := by
  refine ⟨?_, ?_, ?_, ?_, ?_, ?_⟩ <;> simp [World.cell?, h]
theorem box_fz {w : World} {M t : Nat} {cs : Array Value} (h : w.heap[M]? = some (.cells cs t)) (j : Nat) : w.frozen? ⟨M, j, none⟩ = false := by simp [World.frozen?, h]
theorem box_threeT {w : World} {N : Nat} {v0 v1 v2 : Value} {t : TypeId} (h : w.heap[N]? = some (.cells #[v0, v1, v2] t)) : w.cell? ⟨N, 0, none⟩ = some v0 ∧ w.cell? ⟨N, 1, none⟩ = some v1 ∧ w.cell? ⟨N, 2, none⟩ = some v2 := by
  refine ⟨?_, ?_, ?_⟩ <;> simp [World.cell?, h]
theorem boxT_below {w w' : World} {N : Nat} {x : Obj} (h : w.heap[N]? = some x) (hb : Below w.heap.size w w') : w'.heap[N]? = some x := (hb.block N (Array.getElem?_eq_some_iff.1 h).1).trans h
theorem boxT_fr {S : Nat → Prop} {w w' : World} {N : Nat} {x : Obj} (h : w.heap[N]? = some x) (hf : Fr S w w') (hS : ¬ S N) : w'.heap[N]? = some x := (hf.block N (Array.getElem?_eq_some_iff.1 h).1 hS).trans h
/-- The state while a leaf is told: its node's box, and its lists. -/
structure TellSt (w' wr : World) (N : Nat) (lf : Bool) (p : Int) (u : Nat → Value) (l : Nat → List Value) : Prop where
  box : wr.heap[N]? = some (.cells #[.bool lf, .int .i64 p, u 0, u 1, u 2, u 3] 92)
  ll : LL wr (N + 1) u l
  fr : Fr (fun g => N ≤ g) w' wr
theorem TellSt.below {w' wr wr2 : World} {N : Nat} {lf : Bool} {p : Int} {u : Nat → Value} {l : Nat → List Value} (h : TellSt w' wr N lf p u l) (hb : Below wr.heap.size wr wr2) : TellSt w' wr2 N lf p u l :=
  ⟨boxT_below h.box hb, h.ll.below hb, h.fr.trans (Fr.of_below hb)⟩
theorem TellSt.lt {w' wr : World} {N : Nat} {lf : Bool} {p : Int} {u : Nat → Value} {l : Nat → List Value} (h : TellSt w' wr N lf p u l) : N < wr.heap.size := (Array.getElem?_eq_some_iff.1 h.box).1
/-- A list has grown, and is stored in the box. -/
theorem TellSt.app {w' wr w2 : World} {N q : Nat} {lf : Bool} {p : Int} {u : Nat → Value} {l : Nat → List Value} {v' : Value} {zs : List Value} (h : TellSt w' wr N lf p u l) (hq : q < 4) (hr : w2.ownsRow (N + 1) (ety q) 1 v' zs.length zs) (hgr : wr.grownBy w2 (u q).ownBlock) (hat : v'.ownBlock = (u q).ownBlock ∨ ∀ b, v'.ownBlock = some b → wr.heap.size ≤ b) :
    TellSt w' (w2.setCell ⟨N, 2 + q, none⟩ v') N lf p (fun r => if r = q then v' else u r) (fun r => if r = q then zs else l r) := by
  have hl2 := h.ll.app hq hr hgr hat
  have hf3 : Fr (fun b => b = N) w2 (w2.setCell ⟨N, 2 + q, none⟩ v') := fr_setT w2 N _ v'
  have hf2 : Fr (fun b => (u q).ownBlock = some b) wr w2 := Fr.of_grown hgr (fun b e => e)
  have hb2 := boxT_fr h.box hf2 (fun e => by have := ((h.ll.row q hq).lt N e).1; omega)
  refine ⟨?_, hl2.fr hf3 (fun g h1 _ e => by omega), (h.fr.trans (hf2.weak (fun b e => by have := ((h.ll.row q hq).lt b e).1; omega))).trans (hf3.weak (fun b e => by omega))⟩
  have hq4 : q = 0 ∨ q = 1 ∨ q = 2 ∨ q = 3 := by omega
  rcases hq4 with rfl | rfl | rfl | rfl <;> simp [World.setCell, Array.getElem?_modify, hb2]
theorem take_row {α : Type} {cs : α → List Value} (zs : List α) (d : α) (k : Nat) (hk : k < zs.length) : rowsOf cs (zs.take (k + 1)) = rowsOf cs (zs.take k) ++ cs (zs.getD k d) := by
  have e : zs.getD k d = zs[k] := by simp [List.getD, hk]
  rw [List.take_succ_eq_append_getElem hk, rowsOf, List.flatMap_append, e]
  congr 1
  simp only [List.flatMap_cons, List.flatMap_nil, List.append_nil]
/-- The lists of a leaf of which k slots are told. -/
def lxs (t : T) (k : Nat) : Nat → List Value := fun r => if r = 0 then rowsOf strCells (t.keys.take k) else if r = 1 then rowsOf strCells (t.vals.take k) else if r = 2 then rowsOf intCells (t.over.take k) else []
theorem rowSuccT {w : World} {base e size : Nat} {v : Value} {k : Nat} {xs : List Value} (h : w.ownsRow base e size v (k + 1) xs) : ∃ g cap, v = .slice (some ⟨g, 0, none⟩) (k + 1) cap := by
  rcases h.2 with ⟨_, h0⟩ | ⟨g, cap, cur, e, _⟩
  · omega
  · exact ⟨g, cap, e⟩
theorem setf_eq {α : Type} (f : Nat → α) (q : Nat) (v : α) : (fun r => if r = q then v else f r) q = v := by simp
theorem own_ne_slot {w : World} {M n c : Nat} {a : Option Addr} {xs : List Value} {q : Nat} (h : w.ownsRow M (ety q) 1 (.slice a n c) n xs) {S : Nat} (he : (Value.slice a n c).ownBlock = some S) {v0 v1 v2 : Value} (hs : w.heap[S]? = some (.cells #[v0, v1, v2] 86)) : False := by
  rcases h.2 with ⟨e1, _⟩ | ⟨g1, cap, cur, e1, _, hg, _⟩
  · rw [e1] at he; simp [Value.ownBlock] at he
  · rw [e1] at he
    simp [Value.ownBlock] at he
    subst he
    rw [hg] at hs
    simp only [Option.some.injEq, Obj.cells.injEq] at hs
    have := hs.2.1
    unfold ety at this
    split at this <;> exact absurd this (by decide)
set_option maxHeartbeats 8000000 in
theorem leafTell_g {base : Nat} {w : World} {P : Nat → Prop} {t : T} {L : Nat} {a : Option Addr} {n c : Nat} (h : GLeaf w P t L a n c) (hv : t.vals.length = n) (ho : t.over.length = n) (hn : n ≤ 1000) (hP : ∀ b, P b → b < base) (w' : World) (hb : Below base w w') (oa : Option Addr) (on oc : Nat) (ns : List ND) (us : Nat → Nat → Value) (hO : OwnT w' base (.slice oa on oc) ns us) (hon : on = ns.length) (hm : on ≤ 10000000) (hbs : base ≤ w'.heap.size) :
    Calls Try.prog 106 #[.pointer (some ⟨L, 0, none⟩), .slice oa on oc] w' fun e w2 => ∃ oa' oc' us', e = .returned (.slice oa' (on + 1) oc') ∧ OwnT w2 base (.slice oa' (on + 1) oc') (ns ++ [TN.nd ⟨true, t.page, t.keys, t.vals, t.over, []⟩]) us' ∧ Fr (fun k => base ≤ k) w' w2 := by
  have hLb := hP L h.at'
  have hbox : w'.heap[L]? = some (.cells #[.int .i64 t.page, .slice a n c] 98) := (hb.block L hLb).trans h.box
  obtain ⟨c0, c1⟩ := box_twoG hbox
  have hlt : L < w'.heap.size := by omega
  have hrow : SlAt w' P a n c (t.keys.zip (t.vals.zip t.over)) := h.row.keep (fun b hb2 => hb.block b (hP b hb2)) (fun b h => h)
  obtain ⟨i0, hi0, hz0, hz1, hz2⟩ := info_parts info_string
  obtain ⟨i1, hi1, hy0, hy1, hy2⟩ := info_parts info_int64
  obtain ⟨i2, hi2, hx0, hx1, hx2⟩ := info_parts info_TNodeT
  have HLN : Hid (t.keys.length = n ∧ t.vals.length = n ∧ t.over.length = n) := ⟨h.len.symm, hv, ho⟩
  have hcn := hrow.2.1
  have hcm := hrow.2.2.1
  unfold maxLen at hcm
  obtain ⟨N, hN⟩ : ∃ N, N = w'.heap.size := ⟨_, rfl⟩
  have HROW : Hid (∀ wr, Fr (fun g => N ≤ g) w' wr → ∀ k, k < n → ∃ b, a = some ⟨b, 0, none⟩ ∧ b < wr.heap.size ∧ wr.cell? ⟨b, k * 3, none⟩ = some (.string (t.keys.getD k ByteArray.empty)) ∧ wr.cell? ⟨b, k * 3 + 1, none⟩ = some (.string (t.vals.getD k ByteArray.empty)) ∧ wr.cell? ⟨b, k * 3 + 2, none⟩ = some (.int .i64 (t.over.getD k 0))) := fun wr hf k hk => by
    obtain ⟨b, e, hpb, hc⟩ := hrow.2.2.2 (by omega)
    have hbb := hP b hpb
    have hkz : k < (t.keys.zip (t.vals.zip t.over)).length := by rw [hrow.1]; exact hk
    have hz : (t.keys.zip (t.vals.zip t.over)).getD k (ByteArray.empty, ByteArray.empty, 0) = (t.keys.getD k ByteArray.empty, t.vals.getD k ByteArray.empty, t.over.getD k 0) := by
      obtain ⟨e1, e2, e3⟩ := HLN.out
      simp [List.getD, List.getElem?_zip_eq_some, List.getElem?_eq_getElem (show k < t.keys.length by omega), List.getElem?_eq_getElem (show k < t.vals.length by omega), List.getElem?_eq_getElem (show k < t.over.length by omega), List.getElem?_eq_getElem hkz]
    have hcc : ∀ r, r < 3 → wr.cell? ⟨b, k * 3 + r, none⟩ = (slCells (t.keys.getD k ByteArray.empty, t.vals.getD k ByteArray.empty, t.over.getD k 0))[r]? := fun r hr => by
      rw [World.cell?_of_block (w := w') (a := ⟨b, k * 3 + r, none⟩) (hf.block b (by omega) (by omega)), hc (k * 3 + r) (by omega), rowsOf_get sl3 (ByteArray.empty, ByteArray.empty, 0) _ k r hkz hr, hz]
    exact ⟨b, e, by have := hf.size; omega, by simpa [slCells] using hcc 0 (by omega), by simpa [slCells] using hcc 1 (by omega), by simpa [slCells] using hcc 2 (by omega)⟩
  have HO : Hid (OwnT w' base (.slice oa on oc) ns us) := hO
  have HON : Hid (on = ns.length) := hon
  have HBS : Hid (base ≤ N) := by rw [hN]; exact hbs
  have HNW : Hid (w'.heap.size = N) := hN.symm
  have hb1 : Below w'.heap.size w' (w'.alloc (.cells #[.bool true, .int .i64 t.page, .slice none 0 0, .slice none 0 0, .slice none 0 0, .slice none 0 0] 92)) := (Below.refl _ _).alloc (Nat.le_refl _) _
  have k1 := heap_alloc_new w' (.cells #[.bool true, .int .i64 t.page, .slice none 0 0, .slice none 0 0, .slice none 0 0, .slice none 0 0] 92)
  rw [← hN] at k1
  have HT0 : Hid (TellSt w' (w'.alloc (.cells #[.bool true, .int .i64 t.page, .slice none 0 0, .slice none 0 0, .slice none 0 0, .slice none 0 0] 92)) N true t.page (fun _ => .slice none 0 0) (fun _ => [])) := ⟨k1, LL.nil _ _, Fr.of_below hb1⟩
  have d0 := (hb1.cell (p := ⟨L, 0, none⟩) hlt).trans c0
  have d1 := (hb1.cell (p := ⟨L, 1, none⟩) hlt).trans c1
  have hlt1 : L < (w'.alloc (.cells #[.bool true, .int .i64 t.page, .slice none 0 0, .slice none 0 0, .slice none 0 0, .slice none 0 0] 92)).heap.size := by simp; omega
  clear h hbox hrow hb hO hon hbs hv ho k1 hb1
  obtain ⟨pg, hpg⟩ : ∃ pg, pg = t.page := ⟨_, rfl⟩
  rw [← hpg] at c0 HT0 d0 d1 hlt1 ⊢
  clear hpg
  go_enter Try.func106, Try.ntmps106
  go_upto_region 2 with fail
  rw [← hN]
  generalize w'.alloc (.cells #[.bool true, .int .i64 pg, .slice none 0 0, .slice none 0 0, .slice none 0 0, .slice none 0 0] 92) = W0 at HT0 d0 d1 hlt1 ⊢
  clear hN c0 c1 hlt
  go_wp2_with fail
  go_loopw [7, 19] (fun _ i wr => ∃ (k : Nat) (u : Nat → Value), k ≤ n ∧ i = .int .i64 k ∧ Hid (u 3 = .slice none 0 0 ∧ TellSt w' wr N true pg u (lxs t k))) (fun _ i _ => n - (intOf i).toNat)
  case atStart => exact ⟨0, fun _ => .slice none 0 0, Nat.zero_le _, rfl, rfl, by have e : lxs t 0 = fun _ => [] := (by funext r; simp [lxs, rowsOf]); rw [e]; exact HT0.out⟩
  case round =>
    clear HT0 d0 d1 hlt1
    obtain ⟨k, u, hk, rfl, HX⟩ := hrel
    have HU3 : Hid (u 3 = .slice none 0 0) := HX.out.1
    by_cases hltn : k < n
    · obtain ⟨b, rfl, hbl, s0, s1, s2⟩ := HROW.out wr HX.out.2.fr k hltn
      obtain ⟨ky, hky⟩ : ∃ x, x = t.keys.getD k ByteArray.empty := ⟨_, rfl⟩
      obtain ⟨vl, hvl⟩ : ∃ x, x = t.vals.getD k ByteArray.empty := ⟨_, rfl⟩
      obtain ⟨ov, hov⟩ : ∃ x, x = t.over.getD k 0 := ⟨_, rfl⟩
      rw [← hky] at s0
      rw [← hvl] at s1
      rw [← hov] at s2
      have HNX : Hid (lxs t (k + 1) = (fun r => if r = 2 then rowsOf intCells (t.over.take k) ++ [.int .i64 ov] else (fun r => if r = 1 then rowsOf strCells (t.vals.take k) ++ [.string vl] else (fun r => if r = 0 then rowsOf strCells (t.keys.take k) ++ [.string ky] else (lxs t k) r) r) r)) := by
        obtain ⟨e1, e2, e3⟩ := HLN.out
        funext r
        unfold lxs
        rw [take_row t.keys ByteArray.empty k (by omega), take_row t.vals ByteArray.empty k (by omega), take_row t.over 0 k (by omega), ← hky, ← hvl, ← hov]
        by_cases r0 : r = 0
        · subst r0; rfl
        · by_cases r1 : r = 1
          · subst r1; rfl
          · by_cases r2 : r = 2
            · subst r2; rfl
            · simp [r0, r1, r2]
      clear hky hvl hov
      have hba : Below wr.heap.size wr (wr.alloc (.cells #[.string ky, .string vl, .int .i64 ov] 86)) := (Below.refl _ _).alloc (Nat.le_refl _) _
      have SB := heap_alloc_new wr (.cells #[.string ky, .string vl, .int .i64 ov] 86)
      have TA : Hid (TellSt w' (wr.alloc (.cells #[.string ky, .string vl, .int .i64 ov] 86)) N true pg u (lxs t k)) := HX.out.2.below hba
      have hNl := HX.out.2.lt
      obtain ⟨S, hS⟩ : ∃ S, S = wr.heap.size := ⟨_, rfl⟩
      rw [← hS] at SB
      have hNS : N < S := by omega
      clear HX hba
      go_upto_region 5 with fail
      rw [← hS]
      clear hS
      generalize wr.alloc (.cells #[.string ky, .string vl, .int .i64 ov] 86) = V0 at SB TA ⊢
      clear s0 s1 s2 hbl hNl
      have hrw0 : V0.ownsRow (N + 1) 9 1 (u 0) k (rowsOf strCells (t.keys.take k)) := by
        have h1 := TA.out.ll.row 0 (by omega)
        have h2 : (rowsOf strCells (t.keys.take k)).length = k := by rw [rows_len1 sc1, List.length_take]; have := HLN.out; omega
        have h3 : V0.ownsRow (N + 1) 9 1 (u 0) (rowsOf strCells (t.keys.take k)).length (rowsOf strCells (t.keys.take k)) := h1
        rwa [h2] at h3
      obtain ⟨a0, c0', hu0⟩ := ownT_shape hrw0
      rw [hu0] at hrw0
      have bx0 := (box_sixT TA.out.box)
      have x0 : V0.cell? ⟨N, 2, none⟩ = some (.slice a0 k c0') := by rw [← hu0]; exact bx0.2.2.1
      clear bx0
      obtain ⟨s0, s1, s2⟩ := box_threeT SB
      have lN0 := TA.out.lt
      have lS0 : S < V0.heap.size := (Array.getElem?_eq_some_iff.1 SB).1
      have hba0 : Below V0.heap.size V0 (V0.alloc (.cells #[.string ky] 9)) := (Below.refl _ _).alloc (Nat.le_refl _) _
      have TB0 := TA.out.below hba0
      have hcell0 := cell_one_new V0 (.string ky) 9
      have BX0 := TB0.box
      have RL0 : ∀ g, (u 0).ownBlock = some g → N + 1 ≤ g := fun g hg => by rw [hu0] at hg; exact (hrw0.lt g hg).1
      go_upto_region 6 with (at_builtin; refine wpList_append_ownD _ rfl _ _ 58 rfl (N + 1) 9 i0 _ 1 16 Try.underlying58 hi0 hz0 hz1 hz2 rfl (by decide) _ _ _ rfl (hrw0.alloc _) ⟨V0.heap.size, 0, none⟩ 1 1 [.string ky] rfl rfl hcell0 (by simp [Value.oneCell']) (by unfold maxLen; omega) (by omega) (by simp; omega) ?_; intro v' w1 hown' hgr' hat'; obtain ⟨g0, e0, rfl⟩ := rowSuccT hown'; have bN := boxT_fr BX0 (Fr.of_grown (S := fun b => (Value.slice a0 k c0').ownBlock = some b) hgr' (fun b e => e)) (fun e => by have := RL0 N (by rw [hu0]; exact e); omega); have y0 := (box_sixT bN).2.2.1; have yf0 := box_fz bN 2; have yl0 : N < w1.heap.size := (Array.getElem?_eq_some_iff.1 bN).1)
      have T1 : Hid (TellSt w' (w1.setCell ⟨N, 2, none⟩ (.slice (some ⟨g0, 0, none⟩) (k + 1) e0)) N true pg (fun r => if r = 0 then .slice (some ⟨g0, 0, none⟩) (k + 1) e0 else u r) (fun r => if r = 0 then rowsOf strCells (t.keys.take k) ++ [.string ky] else (lxs t k) r)) := by
        refine TB0.app (q := 0) (zs := rowsOf strCells (t.keys.take k) ++ [.string ky]) (by omega) ?_ ?_ ?_
        · rw [List.length_append, show (rowsOf strCells (t.keys.take k)).length = k by rw [rows_len1 sc1, List.length_take]; have := HLN.out; omega]
          exact hown'
        · show World.grownBy _ _ (u 0).ownBlock
          rw [hu0]; exact hgr'
        · show _ = (u 0).ownBlock ∨ _
          rw [hu0]; exact hat'
      have SB1 : (w1.setCell ⟨N, 2, none⟩ (.slice (some ⟨g0, 0, none⟩) (k + 1) e0)).heap[S]? = some (.cells #[.string ky, .string vl, .int .i64 ov] 86) := by
        refine boxT_fr (boxT_fr (boxT_below SB hba0) (Fr.of_grown (S := fun b => (Value.slice a0 k c0').ownBlock = some b) hgr' (fun b e => e)) (fun e => ?_)) (fr_setT _ N 2 _) (by omega)
        have h1 := boxT_below SB hba0
        exact own_ne_slot (q := 0) hrw0 e SB
      clear hown' hgr' hat' bN y0 yf0 yl0 TB0 BX0 RL0 hcell0 hba0 x0 hrw0 s0 s1 s2 SB TA lN0 lS0
      generalize w1.setCell ⟨N, 2, none⟩ (.slice (some ⟨g0, 0, none⟩) (k + 1) e0) = V1 at T1 SB1 ⊢
      have SB := SB1
      clear SB1
      have hrw1 : V1.ownsRow (N + 1) 9 1 (u 1) k (rowsOf strCells (t.vals.take k)) := by
        have h1 := T1.out.ll.row 1 (by omega)
        have h2 : (rowsOf strCells (t.vals.take k)).length = k := by rw [rows_len1 sc1, List.length_take]; have := HLN.out; omega
        have h3 : V1.ownsRow (N + 1) 9 1 (u 1) (rowsOf strCells (t.vals.take k)).length (rowsOf strCells (t.vals.take k)) := h1
        rwa [h2] at h3
      obtain ⟨a1, c1', hu1⟩ := ownT_shape hrw1
      rw [hu1] at hrw1
      have bx1 := (box_sixT T1.out.box)
      have x1 : V1.cell? ⟨N, 3, none⟩ = some (.slice a1 k c1') := by rw [← hu1]; exact bx1.2.2.2.1
      clear bx1
      obtain ⟨s0, s1, s2⟩ := box_threeT SB
      have lN1 := T1.out.lt
      have lS1 : S < V1.heap.size := (Array.getElem?_eq_some_iff.1 SB).1
      have hba1 : Below V1.heap.size V1 (V1.alloc (.cells #[.string vl] 9)) := (Below.refl _ _).alloc (Nat.le_refl _) _
      have TB1 := T1.out.below hba1
      have hcell1 := cell_one_new V1 (.string vl) 9
      have BX1 := TB1.box
      have RL1 : ∀ g, (u 1).ownBlock = some g → N + 1 ≤ g := fun g hg => by rw [hu1] at hg; exact (hrw1.lt g hg).1
      go_upto_region 7 with (at_builtin; refine wpList_append_ownD _ rfl _ _ 58 rfl (N + 1) 9 i0 _ 1 16 Try.underlying58 hi0 hz0 hz1 hz2 rfl (by decide) _ _ _ rfl (hrw1.alloc _) ⟨V1.heap.size, 0, none⟩ 1 1 [.string vl] rfl rfl hcell1 (by simp [Value.oneCell']) (by unfold maxLen; omega) (by omega) (by simp; omega) ?_; intro v' w2 hown' hgr' hat'; obtain ⟨g1, e1, rfl⟩ := rowSuccT hown'; have bN := boxT_fr BX1 (Fr.of_grown (S := fun b => (Value.slice a1 k c1').ownBlock = some b) hgr' (fun b e => e)) (fun e => by have := RL1 N (by rw [hu1]; exact e); omega); have y1 := (box_sixT bN).2.2.2.1; have yf1 := box_fz bN 3; have yl1 : N < w2.heap.size := (Array.getElem?_eq_some_iff.1 bN).1)
      have T2 : Hid (TellSt w' (w2.setCell ⟨N, 3, none⟩ (.slice (some ⟨g1, 0, none⟩) (k + 1) e1)) N true pg (fun r => if r = 1 then .slice (some ⟨g1, 0, none⟩) (k + 1) e1 else (fun r => if r = 0 then .slice (some ⟨g0, 0, none⟩) (k + 1) e0 else u r) r) (fun r => if r = 1 then rowsOf strCells (t.vals.take k) ++ [.string vl] else (fun r => if r = 0 then rowsOf strCells (t.keys.take k) ++ [.string ky] else (lxs t k) r) r)) := by
        refine TB1.app (q := 1) (zs := rowsOf strCells (t.vals.take k) ++ [.string vl]) (by omega) ?_ ?_ ?_
        · rw [List.length_append, show (rowsOf strCells (t.vals.take k)).length = k by rw [rows_len1 sc1, List.length_take]; have := HLN.out; omega]
          exact hown'
        · show World.grownBy _ _ (u 1).ownBlock
          rw [hu1]; exact hgr'
        · show _ = (u 1).ownBlock ∨ _
          rw [hu1]; exact hat'
      have SB2 : (w2.setCell ⟨N, 3, none⟩ (.slice (some ⟨g1, 0, none⟩) (k + 1) e1)).heap[S]? = some (.cells #[.string ky, .string vl, .int .i64 ov] 86) := by
        refine boxT_fr (boxT_fr (boxT_below SB hba1) (Fr.of_grown (S := fun b => (Value.slice a1 k c1').ownBlock = some b) hgr' (fun b e => e)) (fun e => ?_)) (fr_setT _ N 3 _) (by omega)
        have h1 := boxT_below SB hba1
        exact own_ne_slot (q := 1) hrw1 e SB
      clear hown' hgr' hat' bN y1 yf1 yl1 TB1 BX1 RL1 hcell1 hba1 x1 hrw1 s0 s1 s2 SB T1 lN1 lS1
      generalize w2.setCell ⟨N, 3, none⟩ (.slice (some ⟨g1, 0, none⟩) (k + 1) e1) = V2 at T2 SB2 ⊢
      have SB := SB2
      clear SB2
      have hrw2 : V2.ownsRow (N + 1) 2 1 (u 2) k (rowsOf intCells (t.over.take k)) := by
        have h1 := T2.out.ll.row 2 (by omega)
        have h2 : (rowsOf intCells (t.over.take k)).length = k := by rw [rows_len1 ic1, List.length_take]; have := HLN.out; omega
        have h3 : V2.ownsRow (N + 1) 2 1 (u 2) (rowsOf intCells (t.over.take k)).length (rowsOf intCells (t.over.take k)) := h1
        rwa [h2] at h3
      obtain ⟨a2, c2', hu2⟩ := ownT_shape hrw2
      rw [hu2] at hrw2
      have bx2 := (box_sixT T2.out.box)
      have x2 : V2.cell? ⟨N, 4, none⟩ = some (.slice a2 k c2') := by rw [← hu2]; exact bx2.2.2.2.2.1
      clear bx2
      obtain ⟨s0, s1, s2⟩ := box_threeT SB
      have lN2 := T2.out.lt
      have lS2 : S < V2.heap.size := (Array.getElem?_eq_some_iff.1 SB).1
      have hba2 : Below V2.heap.size V2 (V2.alloc (.cells #[.int .i64 ov] 2)) := (Below.refl _ _).alloc (Nat.le_refl _) _
      have TB2 := T2.out.below hba2
      have hcell2 := cell_one_new V2 (.int .i64 ov) 2
      have BX2 := TB2.box
      have RL2 : ∀ g, (u 2).ownBlock = some g → N + 1 ≤ g := fun g hg => by rw [hu2] at hg; exact (hrw2.lt g hg).1
      go_upto_region 8 with (at_builtin; refine wpList_append_ownD _ rfl _ _ 59 rfl (N + 1) 2 i1 _ 1 8 Try.underlying59 hi1 hy0 hy1 hy2 rfl (by decide) _ _ _ rfl (hrw2.alloc _) ⟨V2.heap.size, 0, none⟩ 1 1 [.int .i64 ov] rfl rfl hcell2 (by simp [Value.oneCell']) (by unfold maxLen; omega) (by omega) (by simp; omega) ?_; intro v' w3 hown' hgr' hat'; obtain ⟨g2, e2, rfl⟩ := rowSuccT hown'; have bN := boxT_fr BX2 (Fr.of_grown (S := fun b => (Value.slice a2 k c2').ownBlock = some b) hgr' (fun b e => e)) (fun e => by have := RL2 N (by rw [hu2]; exact e); omega); have y2 := (box_sixT bN).2.2.2.2.1; have yf2 := box_fz bN 4; have yl2 : N < w3.heap.size := (Array.getElem?_eq_some_iff.1 bN).1)
      have T3 : Hid (TellSt w' (w3.setCell ⟨N, 4, none⟩ (.slice (some ⟨g2, 0, none⟩) (k + 1) e2)) N true pg (fun r => if r = 2 then .slice (some ⟨g2, 0, none⟩) (k + 1) e2 else (fun r => if r = 1 then .slice (some ⟨g1, 0, none⟩) (k + 1) e1 else (fun r => if r = 0 then .slice (some ⟨g0, 0, none⟩) (k + 1) e0 else u r) r) r) (fun r => if r = 2 then rowsOf intCells (t.over.take k) ++ [.int .i64 ov] else (fun r => if r = 1 then rowsOf strCells (t.vals.take k) ++ [.string vl] else (fun r => if r = 0 then rowsOf strCells (t.keys.take k) ++ [.string ky] else (lxs t k) r) r) r)) := by
        refine TB2.app (q := 2) (zs := rowsOf intCells (t.over.take k) ++ [.int .i64 ov]) (by omega) ?_ ?_ ?_
        · rw [List.length_append, show (rowsOf intCells (t.over.take k)).length = k by rw [rows_len1 ic1, List.length_take]; have := HLN.out; omega]
          exact hown'
        · show World.grownBy _ _ (u 2).ownBlock
          rw [hu2]; exact hgr'
        · show _ = (u 2).ownBlock ∨ _
          rw [hu2]; exact hat'
      have SB3 : (w3.setCell ⟨N, 4, none⟩ (.slice (some ⟨g2, 0, none⟩) (k + 1) e2)).heap[S]? = some (.cells #[.string ky, .string vl, .int .i64 ov] 86) := by
        refine boxT_fr (boxT_fr (boxT_below SB hba2) (Fr.of_grown (S := fun b => (Value.slice a2 k c2').ownBlock = some b) hgr' (fun b e => e)) (fun e => ?_)) (fr_setT _ N 4 _) (by omega)
        have h1 := boxT_below SB hba2
        exact own_ne_slot (q := 2) hrw2 e SB
      clear hown' hgr' hat' bN y2 yf2 yl2 TB2 BX2 RL2 hcell2 hba2 x2 hrw2 s0 s1 s2 SB T2 lN2 lS2
      generalize w3.setCell ⟨N, 4, none⟩ (.slice (some ⟨g2, 0, none⟩) (k + 1) e2) = V3 at T3 SB3 ⊢
      have SB := SB3
      clear SB3
      obtain ⟨u', HR⟩ : ∃ u' : Nat → Value, Hid (u' 3 = .slice none 0 0 ∧ TellSt w' V3 N true pg u' (lxs t (k + 1))) := by
        refine ⟨_, And.intro ?_ (by rw [HNX.out]; exact T3.out)⟩
        exact HU3.out
      clear T3 SB HNX HU3
      go_wp2_with fail
      go_roundw
      case rel => exact ⟨k + 1, u', by omega, by go_num, HR⟩
      case measure => simp [intOf]; omega
    · obtain rfl : k = n := by omega
      have hLE : lxs t k = (TN.nd ⟨true, pg, t.keys, t.vals, t.over, []⟩).l := by
        obtain ⟨e1, e2, e3⟩ := HLN.out
        funext r
        unfold lxs TN.nd
        rw [List.take_of_length_le (by omega), List.take_of_length_le (by omega), List.take_of_length_le (by omega)]
        simp only [rowsOf, List.flatMap_nil]
        by_cases r0 : r = 0
        · simp [r0]
        · by_cases r1 : r = 1
          · simp [r1]
          · by_cases r2 : r = 2
            · simp [r2]
            · by_cases r3 : r = 3
              · simp [r3]
              · simp [r0, r1, r2, r3]
      have TS := HX.out.2
      have HU3 := HX.out.1
      clear HX
      have hlen : ∀ r, r < 3 → (lxs t k r).length = k := fun r hr => by
        obtain ⟨e1, e2, e3⟩ := HLN.out
        have : r = 0 ∨ r = 1 ∨ r = 2 := by omega
        rcases this with rfl | rfl | rfl
        · show (rowsOf strCells (t.keys.take k)).length = k
          rw [rows_len1 sc1, List.length_take]; omega
        · show (rowsOf strCells (t.vals.take k)).length = k
          rw [rows_len1 sc1, List.length_take]; omega
        · show (rowsOf intCells (t.over.take k)).length = k
          rw [rows_len1 ic1, List.length_take]; omega
      obtain ⟨a0, b0, hu0⟩ := ownT_shape (TS.ll.row 0 (by omega))
      obtain ⟨a1, b1, hu1⟩ := ownT_shape (TS.ll.row 1 (by omega))
      obtain ⟨a2, b2, hu2⟩ := ownT_shape (TS.ll.row 2 (by omega))
      rw [hlen 0 (by omega)] at hu0
      rw [hlen 1 (by omega)] at hu1
      rw [hlen 2 (by omega)] at hu2
      have HBX := TS.box
      rw [hu0, hu1, hu2, HU3] at HBX
      obtain ⟨x0, x1, x2, x3, x4, x5⟩ := box_sixT HBX
      have lN := TS.lt
      have hba : Below wr.heap.size wr (wr.alloc (.cells #[.bool true, .int .i64 pg, .slice a0 k b0, .slice a1 k b1, .slice a2 k b2, .slice none 0 0] 92)) := (Below.refl _ _).alloc (Nat.le_refl _) _
      have OW := HO.out.fr TS.fr (fun g hg e => by have := HO.out.blk hg; have := HNW.out; omega)
      have hrow : wr.ownsRow base 92 6 (.slice oa on oc) on (rowsC (fun i => hdC (ns.getD i dN) (us i)) ns.length) := by
        obtain ⟨R, hR⟩ : ∃ R, R = rowsC (fun i => hdC (ns.getD i dN) (us i)) ns.length := ⟨_, rfl⟩
        have h9 := OW.row
        rw [← hR] at h9 ⊢
        rwa [← HON.out] at h9
      have hcells := cell_six_new wr (.bool true) (.int .i64 pg) (.slice a0 k b0) (.slice a1 k b1) (.slice a2 k b2) (.slice none 0 0) 92
      have hsz : base ≤ wr.heap.size := by have := HBS.out; omega
      have HLL := (TS.ll.below hba)
      have HFW := TS.fr.trans (Fr.of_below hba)
      have HTS : Hid (LL (wr.alloc (.cells #[.bool true, .int .i64 pg, .slice a0 k b0, .slice a1 k b1, .slice a2 k b2, .slice none 0 0] 92)) (N + 1) u (lxs t k) ∧ Fr (fun g => N ≤ g) w' (wr.alloc (.cells #[.bool true, .int .i64 pg, .slice a0 k b0, .slice a1 k b1, .slice a2 k b2, .slice none 0 0] 92))) := ⟨HLL, HFW⟩
      have HU : Hid (u 0 = .slice a0 k b0 ∧ u 1 = .slice a1 k b1 ∧ u 2 = .slice a2 k b2 ∧ u 3 = .slice none 0 0) := ⟨hu0, hu1, hu2, HU3⟩
      clear HLL HFW TS OW HBX hu0 hu1 hu2 HU3 hlen
      go_wp2_with (at_builtin; refine wpList_append_ownD _ rfl _ _ 24 rfl base 92 i2 _ 6 112 Try.underlying24 hi2 hx0 hx1 hx2 rfl (by decide) _ _ _ rfl (hrow.alloc _) ⟨wr.heap.size, 0, none⟩ 1 1 [.bool true, .int .i64 pg, .slice a0 k b0, .slice a1 k b1, .slice a2 k b2, .slice none 0 0] rfl rfl hcells (by simp [Value.oneCell']) (by unfold maxLen; omega) (by omega) (by simp; omega) ?_; intro v' w5 hown' hgr' hat'; obtain ⟨g5, e5, rfl⟩ := rowSuccT hown')
      obtain ⟨f0, f1, f2, f3⟩ := HU.out
      have hOP := OwnT.push (nd := TN.nd ⟨true, pg, t.keys, t.vals, t.over, []⟩) (u := u) (M := N) (v' := .slice (some ⟨g5, 0, none⟩) (on + 1) e5) HO.out (fun g hg => by have := HO.out.blk hg; have := HNW.out; omega) HBS.out HTS.out.2 (fun r hr => by rw [← hLE]; exact own_lowerT (HTS.out.1.row r hr) (by omega)) HTS.out.1.apart (by
        have e : hdC (TN.nd ⟨true, pg, t.keys, t.vals, t.over, []⟩) u = [.bool true, .int .i64 pg, .slice a0 k b0, .slice a1 k b1, .slice a2 k b2, .slice none 0 0] := by
          unfold hdC
          rw [f0, f1, f2, f3]; rfl
        rw [e, show ns.length + 1 = on + 1 by have := HON.out; omega]
        exact hown') hgr'
      have hFF : Fr (fun q => base ≤ q) w' w5 := (HTS.out.2.weak (fun q e => by have := HBS.out; omega)).trans (Fr.of_grown hgr' (fun q e => (HO.out.row.lt q e).1))
      clear hown' hgr' hat' hcells hrow x0 x1 x2 x3 x4 x5 HTS hba
      go_ret
      exact ⟨_, _, _, rfl, hOP, hFF⟩
end Go.Proofs.Ytpmagndofiaooaa
