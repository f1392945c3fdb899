import Derived.Test.YtnpndbicmamggaaGreatGBC
import Derived.Test.YtnpndbicmamggaaGreatSpV
import Derived.Test.YtnpndbicmamggaaGreatGBH
import Derived.Deep.RegionHeld3
import Derived.Deep.MidRow
import Derived.Deep.WholeRow
import Derived.Deep.QuietTactic
import Derived.BigQuiet
namespace Go.Proofs.YtnpndbicmamggaaGreat
open Go.RowKit
set_option linter.unusedVariables false
set_option maxRecDepth 100000

/-- append to a slice of one's own, as one step of a region that draws, and where the answer lies. -/
theorem step_append_ownD {P : Program} {ops : Array Oper} {o : Oper} {a : Act} {w : World} {K : Act → World → Prop} {Q : Exit → Act → World → Prop} {E : Prop}
    (hgd : o.guard = none) (s x : Operand) (t : TypeId) (ho : o.op = .call { callee := .builtin .append, args := #[s, x], argTypes := #[t, t] })
    (base : Nat) (e : TypeId) (i : TypeInfo) (z : Value) (size bytes : Nat) (ht : P.underlying t = some (.slice e)) (hi : P.info? e = some i) (hz : i.zero = some z)
    (hsize : i.size = size) (hby : i.bytes = bytes) (hzs : z.cells.size = size) (hsz : 0 < size)
    (v : Value) (n : Nat) (xs : List Value) (hs : a.eval s = v) (hown : w.ownsRow base e size v n xs)
    (ad : Addr) (m c : Nat) (news : List Value) (hx : a.eval x = .slice (some ad) m c) (hl : news.length = m * size) (hnews : ∀ j u, news[j]? = some u → w.cell? (ad.add j) = some u) (h1 : ∀ u ∈ news, u.oneCell' = true)
    (h63 : n + m ≤ maxLen) (hbytes : (n + m) * bytes ≤ 140737488355328) (hbase : base ≤ w.heap.size)
    (h : ∀ v' w', w'.ownsRow base e size v' (n + m) (xs ++ news) → w.grownBy w' v.ownBlock → (v'.ownBlock = v.ownBlock ∨ ∀ g, v'.ownBlock = some g → w.heap.size ≤ g) → K (a.put o.dst v') w') :
    if Region.wanted o (yielded ops a.tmps) = true then Oper.wp P o a w K Q else E := by
  rw [if_pos (by simp [Region.wanted, hgd])]
  obtain ⟨v', w', hr, h2, h3, h4⟩ := run_append_ownD (P := P) w base t o.type e i z size bytes ht hi hz hsize hby hzs hsz v n xs hown ad m c news hl hnews h1 h63 hbytes hbase
  unfold Oper.wp execOp
  simp only [ho, resolve, invoke, builtin, Sem.run_bind, Sem.run_pure, Result.andThen_ok, List.map_toArray, List.map_cons, List.map_nil, hs, hx, hr]
  exact h v' w' h2 h3 h4
/-- The state inside l1Copy: d's block, the result's block, out's block; the files copied, the writes copied so far. -/
structure CSt (w X : World) (cp fu : Int) (de : Bool) (sa sb v u : Value) (fs : List PF) (xs vs : List Value) (ps : List PP) (ys us : List Value) : Prop where
  d : X.heap[w.heap.size]? = some (.cells #[sa, sb, .int .i64 cp, .int .i64 fu, .bool de] 35)
  r : X.heap[w.heap.size + 1]? = some (.cells #[.slice none 0 0, .slice none 0 0, .int .i64 0, .int .i64 0, .bool false] 35)
  o : X.heap[w.heap.size + 1 + 1]? = some (.cells #[v, u, .int .i64 cp, .int .i64 fu, .bool de] 35)
  files : OwnF X (w.heap.size + 3) v fs xs vs
  cache : OwnP X (w.heap.size + 3) u ps ys us
  apart : ∀ g, Blk v vs g → ¬ Blk u us g
  bel : Below w.heap.size w X
theorem CSt.lt {w X : World} {cp fu : Int} {de : Bool} {sa sb v u : Value} {fs : List PF} {xs vs : List Value} {ps : List PP} {ys us : List Value} (h : CSt w X cp fu de sa sb v u fs xs vs ps ys us) : w.heap.size + 1 + 1 < X.heap.size := (Array.getElem?_eq_some_iff.1 h.o).1
theorem CSt.below {w X X' : World} {cp fu : Int} {de : Bool} {sa sb v u : Value} {fs : List PF} {xs vs : List Value} {ps : List PP} {ys us : List Value} (h : CSt w X cp fu de sa sb v u fs xs vs ps ys us) (hb : Below X.heap.size X X') : CSt w X' cp fu de sa sb v u fs xs vs ps ys us := by
  have hl := h.lt
  exact ⟨(hb.block _ (by omega)).trans h.d, (hb.block _ (by omega)).trans h.r, (hb.block _ hl).trans h.o, h.files.below hb, h.cache.below hb, h.apart, h.bel.trans (hb.mono h.bel.size)⟩
/-- One write more in out. -/
theorem CSt.push {w X X1 X2 X3 : World} {cp fu : Int} {de : Bool} {sa sb v u u' vb : Value} {fs : List PF} {xs vs : List Value} {ps : List PP} {ys us : List Value} {f : PP} (h : CSt w X cp fu de sa sb v u fs xs vs ps ys us) (hb : Below X.heap.size X X1)
    (hvb : X1.ownsRow X.heap.size 5 1 vb f.2.2.length (u8s f.2.2)) (hs : f.1.size ≤ maxLen) (hpg : -9223372036854775808 ≤ f.2.1 ∧ f.2.1 ≤ 9223372036854775807) (hby : ∀ x ∈ f.2.2, 0 ≤ x ∧ x ≤ 255) (hb2 : Below X1.heap.size X1 X2)
    (hrow : X3.ownsRow (w.heap.size + 3) 73 3 u' (ps.length + 1) (ys ++ [.string f.1, .int .i64 f.2.1, vb])) (hgr : X2.grownBy X3 u.ownBlock) (hlies : u'.ownBlock = u.ownBlock ∨ ∀ g, u'.ownBlock = some g → X2.heap.size ≤ g) :
    CSt w (X3.setCell ⟨w.heap.size + 1 + 1, 1, none⟩ u') cp fu de sa sb v u' fs xs vs (ps ++ [f]) (ys ++ [.string f.1, .int .i64 f.2.1, vb]) (us ++ [vb]) := by
  have hl := h.lt
  have hs1 := hb.size
  have hs2 := hb2.size
  have h2 := (h.below hb).below hb2
  have hF : Fr (fun g => u.ownBlock = some g) X2 X3 := Fr.of_grown hgr (fun g e => e)
  have hub : ∀ g, u.ownBlock = some g → w.heap.size + 3 ≤ g := fun g e => (h.cache.row.lt g e).1
  have hpush := OwnP.push h.cache (by omega) hb hvb hs hpg hby hb2 hrow hgr
  have hset := fr_setCell X3 (w.heap.size + 1 + 1) 1 u'
  have ho3 : X3.heap[w.heap.size + 1 + 1]? = _ := (hF.block _ (by omega) (fun e => by have := hub _ e; omega)).trans h2.o
  have hfil3 : OwnF X3 (w.heap.size + 3) v fs xs vs := h2.files.fr hF (fun g hg e => h.apart g hg (.inl e))
  refine ⟨(hset.block _ (by have := hF.size; omega) (by omega)).trans ((hF.block _ (by omega) (fun e => by have := hub _ e; omega)).trans h2.d), (hset.block _ (by have := hF.size; omega) (by omega)).trans ((hF.block _ (by omega) (fun e => by have := hub _ e; omega)).trans h2.r), by simpa using heap_setCell_at ho3 1 u', hfil3.fr hset (fun g hg e => by have := (hfil3.blk hg).1; omega), hpush.fr hset (fun g hg e => by have := (hpush.blk hg).1; omega), ?_, (h2.bel.trans (hF.below (by have := h2.bel.size; omega) (fun g e => by have := hub g e; omega))).trans (hset.below (by have := hF.size; have := h2.bel.size; omega) (fun g e => by omega))⟩
  intro g hg hg2
  have hgl := (h.files.blk hg).2
  rcases hg2 with e | ⟨j, hj, e⟩
  · rcases hlies with hli | hli
    · rw [hli] at e; exact h.apart g hg (.inl e)
    · have := hli g e; omega
  · rw [List.length_append, List.length_singleton] at hj
    by_cases hjl : j < us.length
    · rw [getD_snoc_lt _ _ _ _ hjl] at e; exact h.apart g hg (.inr ⟨j, hjl, e⟩)
    · obtain rfl : j = us.length := by omega
      rw [getD_snoc_eq] at e
      have := (hvb.lt g e).1
      omega
end Go.Proofs.YtnpndbicmamggaaGreat
namespace Go.Proofs.YtnpndbicmamggaaGreat
open Go.RowKit
set_option linter.unusedVariables false
set_option maxRecDepth 100000

theorem own_lowerC {w : World} {b b' e size : Nat} {v : Value} {n : Nat} {xs : List Value} (h : w.ownsRow b e size v n xs) (hb : b' ≤ b) : w.ownsRow b' e size v n xs := own_lowerD h hb
theorem OwnF.lower {w : World} {base base' : Nat} {v : Value} {fs : List PF} {xs vs : List Value} (h : OwnF w base v fs xs vs) (hb : base' ≤ base) : OwnF w base' v fs xs vs :=
  ⟨own_lowerC h.row hb, h.len, h.name, h.val, fun j hj => own_lowerC (h.data j hj) hb, h.byte, h.apart⟩
theorem OwnP.lower {w : World} {base base' : Nat} {v : Value} {fs : List PP} {xs vs : List Value} (h : OwnP w base v fs xs vs) (hb : base' ≤ base) : OwnP w base' v fs xs vs :=
  ⟨own_lowerC h.row hb, h.len, h.name, h.page, h.val, fun j hj => own_lowerC (h.data j hj) hb, h.byte, h.apart⟩
theorem box_fiveC {w : World} {N : Nat} {v0 v1 v2 v3 v4 : Value} {t : TypeId} (h : w.heap[N]? = some (.cells #[v0, v1, v2, v3, v4] t)) : w.cell? ⟨N, 0, none⟩ = some v0 ∧ w.cell? ⟨N, 1, none⟩ = some v1 ∧ w.cell? ⟨N, 2, none⟩ = some v2 ∧ w.cell? ⟨N, 3, none⟩ = some v3 ∧ w.cell? ⟨N, 4, none⟩ = some v4 := by
  refine ⟨?_, ?_, ?_, ?_, ?_⟩ <;> simp [World.cell?, h]
theorem box_threeC {w : World} {N : Nat} {v0 v1 v2 : Value} {t : TypeId} (h : w.heap[N]? = some (.cells #[v0, v1, v2] t)) : w.cell? ⟨N, 0, none⟩ = some v0 ∧ w.cell? ⟨N, 1, none⟩ = some v1 ∧ w.cell? ⟨N, 2, none⟩ = some v2 := by
  refine ⟨?_, ?_, ?_⟩ <;> simp [World.cell?, h]
theorem box_thawC {w : World} {M t : Nat} {cs : Array Value} (h : w.heap[M]? = some (.cells cs t)) (j : Nat) : w.frozen? ⟨M, j, none⟩ = false := by simp [World.frozen?, h]
def put5C (w : World) (N : Nat) (u0 u1 u2 u3 u4 : Value) : World := ((((w.setCell ⟨N, 0, none⟩ u0).setCell ⟨N, 1, none⟩ u1).setCell ⟨N, 2, none⟩ u2).setCell ⟨N, 3, none⟩ u3).setCell ⟨N, 4, none⟩ u4
theorem put5C_box {w : World} {N t : Nat} {v0 v1 v2 v3 v4 : Value} (h : w.heap[N]? = some (.cells #[v0, v1, v2, v3, v4] t)) (u0 u1 u2 u3 u4 : Value) : (put5C w N u0 u1 u2 u3 u4).heap[N]? = some (.cells #[u0, u1, u2, u3, u4] t) := by
  simp [put5C, World.setCell, Array.getElem?_modify, h]
theorem put5C_fr (w : World) (N : Nat) (u0 u1 u2 u3 u4 : Value) : Fr (fun x => x = N) w (put5C w N u0 u1 u2 u3 u4) :=
  ((((fr_setCell _ _ _ _).trans (fr_setCell _ _ _ _)).trans (fr_setCell _ _ _ _)).trans (fr_setCell _ _ _ _)).trans (fr_setCell _ _ _ _)
end Go.Proofs.YtnpndbicmamggaaGreat
namespace Go.Proofs.YtnpndbicmamggaaGreat
open Go.RowKit
set_option linter.unusedVariables false
set_option maxRecDepth 100000

end Go.Proofs.YtnpndbicmamggaaGreat
namespace Go.Proofs.YtnpndbicmamggaaGreat
open Go.RowKit
set_option linter.unusedVariables false
set_option maxRecDepth 100000

theorem box_sixR {w : World} {N : Nat} {v0 v1 v2 v3 v4 v5 : Value} {t : TypeId} (h : w.heap[N]? = some (.cells #[v0, v1, v2, v3, v4, v5] t)) : w.cell? ⟨N, 0, none⟩ = some v0 ∧ w.cell? ⟨N, 1, none⟩ = some v1 ∧ w.cell? ⟨N, 2, none⟩ = some v2 ∧ w.cell? ⟨N, 3, none⟩ = some v3 ∧ w.cell? ⟨N, 4, none⟩ = some v4 ∧ w.cell? ⟨N, 5, none⟩ = some v5 := by
  refine ⟨?_, ?_, ?_, ?_, ?_, ?_⟩ <;> simp [World.cell?, h]
end Go.Proofs.YtnpndbicmamggaaGreat
namespace Go.Proofs.YtnpndbicmamggaaGreat
open Go.RowKit
set_option linter.unusedVariables false
set_option maxRecDepth 100000

/-- A disk that a step tells, in memory of its own. -/
structure ResAt (w : World) (e : Ending) (w' : World) (er : Int) (fs : List PF) (ps : List PP) (cp fu : Int) (de : Bool) : Prop where
  out : ∃ (a : Option Addr) (c : Nat) (b : Option Addr) (d : Nat) (xs vs ys us : List Value), e = .returned (.agg #[.int .i64 er, .slice a fs.length c, .slice b ps.length d, .int .i64 cp, .int .i64 fu, .bool de]) ∧ OwnD w' w.heap.size (.slice a fs.length c) (.slice b ps.length d) fs ps xs vs ys us ∧ Below w.heap.size w w'
theorem OwnD.frS {S : Nat → Prop} {w w' : World} {base : Nat} {v u : Value} {fs : List PF} {ps : List PP} {xs vs ys us : List Value} (h : OwnD w base v u fs ps xs vs ys us) (hf : Fr S w w') (hS : ∀ g, S g → ¬ (Blk v vs g ∨ Blk u us g)) : OwnD w' base v u fs ps xs vs ys us :=
  ⟨h.files.fr hf (fun g hg e => hS g e (.inl hg)), h.cache.fr hf (fun g hg e => hS g e (.inr hg)), h.apart⟩
theorem OwnD.blk {w : World} {base : Nat} {v u : Value} {fs : List PF} {ps : List PP} {xs vs ys us : List Value} (h : OwnD w base v u fs ps xs vs ys us) {g : Nat} (hg : Blk v vs g ∨ Blk u us g) : base ≤ g ∧ g < w.heap.size := hg.elim h.files.blk h.cache.blk
theorem OwnD.lower {w : World} {base base' : Nat} {v u : Value} {fs : List PF} {ps : List PP} {xs vs ys us : List Value} (h : OwnD w base v u fs ps xs vs ys us) (hb : base' ≤ base) : OwnD w base' v u fs ps xs vs ys us := ⟨OwnF.lower h.files hb, OwnP.lower h.cache hb, h.apart⟩
theorem OwnD.shape {w : World} {base : Nat} {v u : Value} {fs : List PF} {ps : List PP} {xs vs ys us : List Value} (h : OwnD w base v u fs ps xs vs ys us) : (∃ a c, v = .slice a fs.length c) ∧ ∃ b d, u = .slice b ps.length d := ⟨own_shape h.files.row, own_shape h.cache.row⟩
def put6R (w : World) (N : Nat) (u0 u1 u2 u3 u4 u5 : Value) : World := (((((w.setCell ⟨N, 0, none⟩ u0).setCell ⟨N, 1, none⟩ u1).setCell ⟨N, 2, none⟩ u2).setCell ⟨N, 3, none⟩ u3).setCell ⟨N, 4, none⟩ u4).setCell ⟨N, 5, none⟩ u5
theorem put6R_box {w : World} {N t : Nat} {v0 v1 v2 v3 v4 v5 : Value} (h : w.heap[N]? = some (.cells #[v0, v1, v2, v3, v4, v5] t)) (u0 u1 u2 u3 u4 u5 : Value) : (put6R w N u0 u1 u2 u3 u4 u5).heap[N]? = some (.cells #[u0, u1, u2, u3, u4, u5] t) := by
  simp [put6R, World.setCell, Array.getElem?_modify, h]
theorem put6R_fr (w : World) (N : Nat) (u0 u1 u2 u3 u4 u5 : Value) : Fr (fun x => x = N) w (put6R w N u0 u1 u2 u3 u4 u5) :=
  (((((fr_setCell _ _ _ _).trans (fr_setCell _ _ _ _)).trans (fr_setCell _ _ _ _)).trans (fr_setCell _ _ _ _)).trans (fr_setCell _ _ _ _)).trans (fr_setCell _ _ _ _)
/-- What a step spends: its word, the fuel, whether the disk is dead. -/
def spE (fu : Int) : Int := if fu = 0 then 3 else 0
def spF (fu : Int) : Int := if 0 < fu then fu - 1 else fu
def spD (fu : Int) (de : Bool) : Bool := if fu = 0 then true else de
theorem ResAt.mk6 {w X : World} {R base : Nat} {er cp fu : Int} {de : Bool} {a b : Option Addr} {c d : Nat} {fs : List PF} {ps : List PP} {xs vs ys us : List Value} (hRw : w.heap.size ≤ R) (hO : OwnD X base (.slice a fs.length c) (.slice b ps.length d) fs ps xs vs ys us) (hRb : R < base) (hX : R < X.heap.size) (hbel : Below w.heap.size w X) :
    ResAt w (.returned (.agg #[.int .i64 er, .slice a fs.length c, .slice b ps.length d, .int .i64 cp, .int .i64 fu, .bool de])) (put6R X R (.int .i64 er) (.slice a fs.length c) (.slice b ps.length d) (.int .i64 cp) (.int .i64 fu) (.bool de)) er fs ps cp fu de := by
  have hz := put6R_fr X R (.int .i64 er) (.slice a fs.length c) (.slice b ps.length d) (.int .i64 cp) (.int .i64 fu) (.bool de)
  exact ⟨⟨a, c, b, d, xs, vs, ys, us, rfl, OwnD.lower (hO.frS hz (fun g e hg => by have := (hO.blk hg).1; omega)) (by omega), hbel.trans (hz.below (by omega) (fun g e => by omega))⟩⟩
theorem ResAt.after {w X X' : World} {e : Ending} {er cp fu : Int} {de : Bool} {fs : List PF} {ps : List PP} (h : ResAt w e X er fs ps cp fu de) (hb : Below X.heap.size X X') : ResAt w e X' er fs ps cp fu de := by
  obtain ⟨a, c, b, d, xs, vs, ys, us, e1, hO, hbel⟩ := h.out
  exact ⟨⟨a, c, b, d, xs, vs, ys, us, e1, hO.below hb, hbel.trans (hb.mono hbel.size)⟩⟩
end Go.Proofs.YtnpndbicmamggaaGreat
namespace Go.Proofs.YtnpndbicmamggaaGreat
open Go.RowKit
set_option linter.unusedVariables false
set_option maxRecDepth 100000

/-- The places below j whose names are not nm. -/
def keptI (nms : Nat → ByteArray) (nm : ByteArray) (j : Nat) : List Nat := (List.range j).filter fun i => !decide (nms i = nm)
theorem keptI_lt {nms : Nat → ByteArray} {nm : ByteArray} {j k : Nat} (h : k ∈ keptI nms nm j) : k < j := by
  have := (List.mem_filter.1 h).1
  simpa using this
theorem keptI_nodup (nms : Nat → ByteArray) (nm : ByteArray) (j : Nat) : (keptI nms nm j).Nodup := List.Pairwise.filter _ List.nodup_range
theorem keptI_yes {nms : Nat → ByteArray} {nm : ByteArray} {j : Nat} (h : nms j = nm) : keptI nms nm (j + 1) = keptI nms nm j := by
  unfold keptI
  rw [List.range_succ, List.filter_append]
  simp [h]
theorem keptI_no {nms : Nat → ByteArray} {nm : ByteArray} {j : Nat} (h : nms j ≠ nm) : keptI nms nm (j + 1) = keptI nms nm j ++ [j] := by
  unfold keptI
  rw [List.range_succ, List.filter_append]
  simp [h]
theorem keptI_len (nms : Nat → ByteArray) (nm : ByteArray) (j : Nat) : (keptI nms nm j).length ≤ j := by
  have := List.length_filter_le (fun i => !decide (nms i = nm)) (List.range j)
  simpa [keptI] using this
theorem keptI_all {nms : Nat → ByteArray} {nm : ByteArray} {j : Nat} (h : ∀ i, i < j → nms i ≠ nm) : keptI nms nm j = List.range j := by
  unfold keptI
  rw [List.filter_eq_self]
  intro i hi
  simp [h i (by simpa using hi)]
/-- The two cells of place k. -/
def cellsK (xs : List Value) (k : Nat) : List Value := [xs.getD (k * 2) (.bool false), xs.getD (k * 2 + 1) (.bool false)]
/-- The cells of some places of a row. -/
def pickR (xs : List Value) (ks : List Nat) : List Value := ks.flatMap (cellsK xs)
theorem pickR_append (xs : List Value) (a b : List Nat) : pickR xs (a ++ b) = pickR xs a ++ pickR xs b := by simp [pickR]
theorem pickR_len (xs : List Value) (ks : List Nat) : (pickR xs ks).length = ks.length * 2 := by
  induction ks with
  | nil => rfl
  | cons k r ih => simp only [pickR, List.flatMap_cons, List.length_append, List.length_cons] at *; rw [ih]; simp [cellsK]; omega
theorem pickR_cons (xs : List Value) (k : Nat) (r : List Nat) : pickR xs (k :: r) = xs.getD (k * 2) (.bool false) :: xs.getD (k * 2 + 1) (.bool false) :: pickR xs r := by simp [pickR, cellsK]
theorem pickR_get (xs : List Value) (ks : List Nat) (j : Nat) (h : j < ks.length) : (pickR xs ks)[j * 2]? = some (xs.getD (ks.getD j 0 * 2) (.bool false)) ∧ (pickR xs ks)[j * 2 + 1]? = some (xs.getD (ks.getD j 0 * 2 + 1) (.bool false)) := by
  induction ks generalizing j with
  | nil => simp at h
  | cons k r ih =>
    rw [pickR_cons]
    cases j with
    | zero => simp
    | succ j =>
      have := ih j (by simpa using h)
      rw [show (j + 1) * 2 = j * 2 + 1 + 1 by omega, show j * 2 + 1 + 1 + 1 = (j * 2 + 1) + 1 + 1 by omega]
      simpa using this
theorem getD_some {xs : List Value} {i : Nat} {v : Value} (h : xs[i]? = some v) (d : Value) : xs.getD i d = v := by simp [List.getD, h]
theorem pickR_range (xs : List Value) (n : Nat) (h : xs.length = n * 2) : pickR xs (List.range n) = xs := by
  apply List.ext_getElem?
  intro i
  by_cases hi : i < n * 2
  · have hg := pickR_get xs (List.range n) (i / 2) (by simp; omega)
    rw [show (List.range n).getD (i / 2) 0 = i / 2 by simp [List.getD, show i / 2 < n by omega]] at hg
    rcases Nat.mod_two_eq_zero_or_one i with h2 | h2
    · rw [show i / 2 * 2 = i by omega] at hg
      rw [hg.1, List.getElem?_eq_getElem (by omega)]
      simp [List.getD, List.getElem?_eq_getElem (show i < xs.length by omega)]
    · rw [show i / 2 * 2 + 1 = i by omega] at hg
      rw [hg.2, List.getElem?_eq_getElem (by omega)]
      simp [List.getD, List.getElem?_eq_getElem (show i < xs.length by omega)]
  · rw [List.getElem?_eq_none (by rw [pickR_len]; simp; omega), List.getElem?_eq_none (by omega)]
theorem set_twoK {A B : List Value} {a b u v : Value} {k : Nat} (h : A.length = k) : ((A ++ a :: b :: B).set k u).set (k + 1) v = A ++ u :: v :: B := by
  subst h
  simp
theorem pickR_set (xs : List Value) (A R : List Nat) (i j : Nat) (k : Nat) (h : A.length = k) : ((pickR xs (A ++ i :: R)).set (k * 2) (xs.getD (j * 2) (.bool false))).set (k * 2 + 1) (xs.getD (j * 2 + 1) (.bool false)) = pickR xs (A ++ j :: R) := by
  rw [pickR_append, pickR_cons, set_twoK (by rw [pickR_len, h]), pickR_append, pickR_cons]
/-- Some of one's own files, in an order of one's own, in another row. -/
theorem OwnF.pick {w w' : World} {base : Nat} {v v' : Value} {fs : List PF} {xs vs : List Value} (h : OwnF w base v fs xs vs) (ks : List Nat) (hn : ks.Nodup) (hk : ∀ k ∈ ks, k < fs.length)
    (hd : ∀ j, j < fs.length → w'.ownsRow base 5 1 (vs.getD j (.slice none 0 0)) (fs.getD j (ByteArray.empty, [])).2.length (u8s (fs.getD j (ByteArray.empty, [])).2)) (hr : w'.ownsRow base 71 2 v' ks.length (pickR xs ks)) :
    OwnF w' base v' (ks.map fun k => fs.getD k (ByteArray.empty, [])) (pickR xs ks) (ks.map fun k => vs.getD k (.slice none 0 0)) := by
  have hlt : ∀ j, j < ks.length → ks.getD j 0 < fs.length := fun j hj => by
    refine hk _ ?_
    simp [List.getD, List.getElem?_eq_getElem hj]
  have hf : ∀ j, j < ks.length → (ks.map fun k => fs.getD k (ByteArray.empty, [])).getD j (ByteArray.empty, []) = fs.getD (ks.getD j 0) (ByteArray.empty, []) := fun j hj => by simp [List.getD, List.getElem?_eq_getElem hj]
  have hv : ∀ j, j < ks.length → (ks.map fun k => vs.getD k (.slice none 0 0)).getD j (.slice none 0 0) = vs.getD (ks.getD j 0) (.slice none 0 0) := fun j hj => by simp [List.getD, List.getElem?_eq_getElem hj]
  refine ⟨by simpa using hr, by simp, fun j hj => ?_, fun j hj => ?_, fun j hj => ?_, fun j hj => ?_, fun i j hij hj => ?_⟩
  · have hj' : j < ks.length := by simpa using hj
    have h1 := h.name _ (hlt j hj')
    rw [hf j hj', (pickR_get xs ks j hj').1, getD_some h1.1]
    exact ⟨rfl, h1.2⟩
  · have hj' : j < ks.length := by simpa using hj
    have h1 := h.val _ (hlt j hj')
    rw [hv j hj', (pickR_get xs ks j hj').2, getD_some h1]
  · have hj' : j < ks.length := by simpa using hj
    rw [hf j hj', hv j hj']
    exact hd _ (hlt j hj')
  · have hj' : j < ks.length := by simpa using hj
    rw [hf j hj']
    exact h.byte _ (hlt j hj')
  · have hj' : j < ks.length := by simpa using hj
    have hi' : i < ks.length := by omega
    rw [hv i hi', hv j hj']
    intro g hg
    have hne : ks.getD i 0 ≠ ks.getD j 0 := by
      intro e
      simp only [List.getD, List.getElem?_eq_getElem hi', List.getElem?_eq_getElem hj', Option.getD_some] at e
      exact (List.pairwise_iff_getElem.1 hn i j hi' hj' hij) e
    exact h.apart2 hne (hlt i hi') (hlt j hj') hg
theorem keptI_map (fs : List PF) (nm : ByteArray) : (keptI (fun i => (fs.getD i (ByteArray.empty, [])).1) nm fs.length).map (fun k => fs.getD k (ByteArray.empty, [])) = fs.filter (fun f => !decide (f.1 = nm)) := by
  unfold keptI
  rw [show (fun i => !decide ((fs.getD i (ByteArray.empty, [])).1 = nm)) = (fun f : PF => !decide (f.1 = nm)) ∘ (fun i => fs.getD i (ByteArray.empty, [])) from rfl]
  rw [← List.filter_map]
  congr 1
  apply List.ext_getElem?
  intro i
  by_cases hi : i < fs.length
  · simp [hi, List.getD]
  · simp [hi]
end Go.Proofs.YtnpndbicmamggaaGreat
namespace Go.Proofs.YtnpndbicmamggaaGreat
open Go.RowKit Go.Maps
set_option linter.unusedVariables false
set_option maxRecDepth 100000

theorem pageF_take {ds : List Int} {j : Nat} (h : (j + 1) * 128 ≤ ds.length) (pg : Int) : pageF (ds.take ((j + 1) * 128)) pg = if pg = j then some ((ds.drop (j * 128)).take 128) else pageF (ds.take (j * 128)) pg := by
  have e1 : (ds.take ((j + 1) * 128)).length = (j + 1) * 128 := by simp; omega
  have e2 : (ds.take (j * 128)).length = j * 128 := by simp; omega
  unfold pageF
  rw [e1, e2]
  by_cases h1 : pg = j
  · subst h1
    rw [if_pos (by omega), if_pos rfl]
    congr 1
    rw [Int.toNat_natCast, List.drop_take, List.take_take]
    congr 1
    omega
  · rw [if_neg h1]
    by_cases h2 : 0 ≤ pg ∧ pg * 128 + 128 ≤ ((j + 1) * 128 : Nat)
    · obtain ⟨q, rfl⟩ := Int.eq_ofNat_of_zero_le h2.1
      have h3 : q + 1 ≤ j := by omega
      rw [if_pos h2, if_pos (by omega)]
      congr 1
      rw [Int.toNat_natCast, List.drop_take, List.drop_take, List.take_take, List.take_take]
      congr 1
      omega
    · rw [if_neg h2, if_neg (by omega)]
theorem pageF_all (ds : List Int) (h : ds.length % 128 = 0) : ds.take (ds.length / 128 * 128) = ds := List.take_of_length_le (by omega)
theorem pageF_none (pg : Int) (h : 0 ≤ pg → True) : pageF [] pg = none := by
  unfold pageF
  rw [if_neg (by simp; omega)]
/-- The pages of the first k files, and of j pages of the next. -/
def someF (fs : List PF) (k j : Nat) : List PF := fs.take k ++ [((fs.getD k (ByteArray.empty, [])).1, (fs.getD k (ByteArray.empty, [])).2.take (j * 128))]
theorem inv_new {fs : List PF} (hI : Inv fs) {k : Nat} (hk : k < fs.length) : ∀ g ∈ fs.take k, g.1 ≠ (fs.getD k (ByteArray.empty, [])).1 := by
  intro g hg
  obtain ⟨i, hi, rfl⟩ := List.mem_iff_getElem.1 hg
  have hi' : i < k := by simp at hi; omega
  have := hI.ne i k (by omega) (by omega) hk
  simpa [List.getD, List.getElem?_eq_getElem (show i < fs.length by omega), List.getElem_take] using this
theorem someF_page {fs : List PF} (hI : Inv fs) {k : Nat} (hk : k < fs.length) (j : Nat) (nm : ByteArray) (pg : Int) : pageOf (someF fs k j) nm pg = if nm = (fs.getD k (ByteArray.empty, [])).1 then pageF ((fs.getD k (ByteArray.empty, [])).2.take (j * 128)) pg else pageOf (fs.take k) nm pg :=
  pageOf_snoc (f := ((fs.getD k (ByteArray.empty, [])).1, (fs.getD k (ByteArray.empty, [])).2.take (j * 128))) (inv_new hI hk)
theorem rep_start {fs : List PF} (hI : Inv fs) {k : Nat} (hk : k < fs.length) {D : DataW Unit} (h : RepS D (pageOf (fs.take k))) : RepS D (pageOf (someF fs k 0)) :=
  h.congr fun nm pg => by
    rw [someF_page hI hk]
    by_cases hn : nm = (fs.getD k (ByteArray.empty, [])).1
    · rw [if_pos hn]
      simp only [Nat.zero_mul, List.take_zero]
      rw [pageF_none pg (fun _ => trivial)]
      subst hn
      unfold pageOf
      rw [List.find?_eq_none.2 (fun g hg => by simpa using inv_new hI hk g hg)]
    · rw [if_neg hn]
theorem rep_step {fs : List PF} (hI : Inv fs) {k j : Nat} (hk : k < fs.length) {D : DataW Unit} (h : RepS D (pageOf (someF fs k j))) (hD : IsMap D) (hj : (j + 1) * 128 ≤ (fs.getD k (ByteArray.empty, [])).2.length) (hn : (fs.getD k (ByteArray.empty, [])).1.size ≤ maxLen) (hp : (Lit.int .i64 (j : Int)).wf = true) :
    RepS (D.put (kPl (fs.getD k (ByteArray.empty, [])).1 j) (shD (((fs.getD k (ByteArray.empty, [])).2.drop (j * 128)).take 128))) (pageOf (someF fs k (j + 1))) :=
  (h.put hD hn hp _).congr fun nm pg => by
    rw [someF_page hI hk, someF_page hI hk]
    by_cases h1 : nm = (fs.getD k (ByteArray.empty, [])).1
    · rw [if_pos h1, if_pos h1]
      rw [pageF_take hj]
      by_cases h2 : pg = j
      · rw [if_pos h2, if_pos ⟨h1, h2⟩]
      · rw [if_neg h2, if_neg (fun h => h2 h.2)]
    · rw [if_neg h1, if_neg h1, if_neg (fun h => h1 h.1)]
theorem rep_next {fs : List PF} (hI : Inv fs) {k : Nat} (hk : k < fs.length) {D : DataW Unit} (h : RepS D (pageOf (someF fs k ((fs.getD k (ByteArray.empty, [])).2.length / 128)))) : RepS D (pageOf (fs.take (k + 1))) := by
  have e : someF fs k ((fs.getD k (ByteArray.empty, [])).2.length / 128) = fs.take (k + 1) := by
    unfold someF
    rw [pageF_all _ (hI.pg k hk).2, take_snocD fs k (ByteArray.empty, []) hk]
  rw [e] at h
  exact h
end Go.Proofs.YtnpndbicmamggaaGreat
namespace Go.Proofs.YtnpndbicmamggaaGreat
open Go.RowKit Go.Maps
set_option linter.unusedVariables false
set_option maxRecDepth 100000

theorem run_makeS (r : Int) (w : World) : (Instr.makeMap 49 (some (.int .i64 r))).run Tryz.prog w = .ok (.map (some w.heap.size)) (w.alloc (.map #[] 0)) := by
  simp [Instr.makeMap, run_underlying Tryz.underlying49, asInt, newObj]
  rfl
theorem run_arrayAtS (b o n c : Nat) (w : World) (h : 128 ≤ n) : (Instr.arrayAt 82 (.slice (some ⟨b, o, none⟩) n c)).run Tryz.prog w = .ok (.pointer (some ⟨b, o, none⟩)) w := by
  simp [Instr.arrayAt, run_underlying Tryz.underlying82]
  omega
theorem infoSheet : (Tryz.prog.info? 82).map (·.size) = some 128 := by kernel_rfl
theorem range_page {W : World} {db dof j pn : Nat} {ds : List Int} (h : ∀ t, t < pn → W.cell? ⟨db, dof + t, none⟩ = some (.int .u8 (ds.getD t 0))) (hl : ds.length = pn) (hj : (j + 1) * 128 ≤ pn) : W.rangeAt db (dof + j * 128) (u8s ((ds.drop (j * 128)).take 128)) := by
  intro t v ht
  have htl : t < 128 := by
    have := (List.getElem?_eq_some_iff.1 ht).1
    simp only [u8s, List.length_map, List.length_take] at this
    omega
  have h1 := h (j * 128 + t) (by omega)
  have h2 : j * 128 + t < ds.length := by omega
  rw [Nat.add_assoc, h1, ← ht]
  simp only [u8s, List.getElem?_map, List.getElem?_take_of_lt htl, List.getElem?_drop, List.getElem?_eq_getElem h2, List.getD, Option.map_some, Option.getD_some]
theorem box_two2D {w : World} {N : Nat} {v0 v1 : Value} {t : TypeId} (h : w.heap[N]? = some (.cells #[v0, v1] t)) : w.cell? ⟨N, 0, none⟩ = some v0 ∧ w.cell? ⟨N, 1, none⟩ = some v1 := by simp [World.cell?, h]
set_option maxHeartbeats 6400000 in
theorem durable_any (a : Option Addr) (n c : Nat) (fs : List PF) (b : Option Addr) (m d : Nat) (ps : List PP) (cp fu : Int) (de : Bool) (w : World) (A B : Nat) (hB : B ≤ w.heap.size) (hF : FilesAt w A B a n c fs) (hm : m ≤ 1048576) (hI : Inv fs) (hn : n ≤ 12) (hall : ∀ j, j < n → (fs.getD j (ByteArray.empty, [])).2.length ≤ 1048576) :
    Calls Tryz.prog 32 #[.agg #[.slice a n c, .slice b m d, .int .i64 cp, .int .i64 fu, .bool de]] w fun e w' => ∃ (mb k : Nat) (D : DataW Unit), e = .returned (.map (some mb)) ∧ w.heap.size ≤ mb ∧ MapS w' mb k D ∧ k ≤ 1048576 ∧ RepS D (pageOf fs) ∧ Below w.heap.size w w' := by
  have HF : Hid (∀ W, Below w.heap.size w W → FilesAt W A B a n c fs) := fun W hW => hF.below (hW.mono hB)
  have HA : Hid (∀ j, j < n → (fs.getD j (ByteArray.empty, [])).2.length ≤ 1048576) := hall
  have HFL : Hid (fs.length = n) := hF.1
  have HI : Hid (Inv fs) := hI
  have hnc := hF.2.1
  have hcm := hF.2.2.1
  unfold maxLen at hcm
  clear hF hall hI
  have hb0 : Below w.heap.size w (w.alloc (.cells #[.slice a n c, .slice b m d, .int .i64 cp, .int .i64 fu, .bool de] 35)) := (Below.refl _ _).alloc (Nat.le_refl _) _
  have k0 := heap_alloc_new w (.cells #[.slice a n c, .slice b m d, .int .i64 cp, .int .i64 fu, .bool de] 35)
  have hmk := run_makeS
  go_enter Tryz.func32, Tryz.ntmps32
  go_wp2
  go_loopw [3, 5, 16] (fun r _ i wr => ∃ (k : Nat) (rm : Int), k ≤ n ∧ i = .int .i64 k ∧ r = .int .i64 rm ∧ (0 ≤ rm ∧ rm ≤ 1048576 + k * 1048576) ∧ Below (w.heap.size + 1) (w.alloc (.cells #[.slice a n c, .slice b m d, .int .i64 cp, .int .i64 fu, .bool de] 35)) wr) (fun _ _ i _ => n - (intOf i).toNat)
  case atStart => exact ⟨0, m, Nat.zero_le _, rfl, rfl, by omega, Below.refl _ _⟩
  case round =>
    obtain ⟨k, rm, hk, rfl, rfl, hrm, hbel⟩ := hrel
    have hbw : Below w.heap.size w wr := hb0.trans (hbel.mono (by omega))
    have hsz := hbel.size
    simp at hsz
    by_cases hlt : k < n
    · obtain ⟨_, _, _, hcell⟩ := HF.out wr hbw
      obtain ⟨ab, aoff, rfl, hab, hcb⟩ := hcell (by omega)
      obtain ⟨p1, p2, pa, pn, pc, p3, p4⟩ := hcb k hlt
      have hpl : pn ≤ 1048576 := by have := HA.out k hlt; rw [p4.1] at this; exact this
      have hbk : ab < wr.heap.size := by omega
      clear hcell hcb
      obtain ⟨f1, hf1⟩ : ∃ x, x = (fs.getD k (ByteArray.empty, [])).1 := ⟨_, rfl⟩
      rw [← hf1] at p1
      clear hf1 p4 p2
      have hal := hbel.alloc (by omega) (.cells #[.string f1, .slice pa pn pc] 71)
      have hq : 0 ≤ (pn : Int) / 128 ∧ (pn : Int) / 128 ≤ 1048576 := by omega
      go_wp2
      go_roundw
      case rel => exact ⟨k + 1, rm + (pn : Int) / 128, by omega, by go_num, by go_num, by omega, hal⟩
      case measure => simp [intOf]; omega
    · obtain rfl : k = n := by omega
      have k1 := (hbel.block w.heap.size (by omega)).trans k0
      obtain ⟨w2, hw2⟩ : ∃ w2, w2 = wr := ⟨_, rfl⟩
      rw [← hw2] at k1 hbw hsz ⊢
      clear hbel hb0 k0 hw2 wr
      obtain ⟨o0, o1, o2, o3, o4⟩ := box_fiveC k1
      have hl2 : w.heap.size < w2.heap.size := by omega
      go_wp2
      clear o0 o1 o2 o3 o4 hmk
      go_loopw [8, 9, 32] (fun _ _ i wr => ∃ (j q : Nat) (D : DataW Unit), j ≤ k ∧ i = .int .i64 j ∧ q ≤ j * 8192 ∧ Hid (MapS wr w2.heap.size q D) ∧ Hid (RepS D (pageOf (fs.take j))) ∧ Hid (Fr (fun x => x = w2.heap.size) (w2.alloc (.map #[] 0)) wr)) (fun _ _ i _ => k - (intOf i).toNat)
      case atStart => exact ⟨0, 0, _, Nat.zero_le _, rfl, Nat.le_refl _, World.ownsMap_made w2 Tryz.prog _ _, RepS.nil, Fr.refl _ _⟩
      case round =>
        obtain ⟨i, q, D, hi, rfl, hq, HM, HRp, HFr⟩ := hrel
        have hsz2 := HFr.out.size
        simp at hsz2
        have hbw2 : Below w.heap.size w wr := (hbw.trans (((Below.refl w2.heap.size w2).alloc (Nat.le_refl _) _).mono hbw.size)).trans (HFr.out.below (by simp; omega) (fun g e => by omega))
        have hlm : w2.heap.size < wr.heap.size := by omega
        by_cases hlt : i < k
        · obtain ⟨_, _, _, hcell⟩ := HF.out wr hbw2
          obtain ⟨ab, aoff, rfl, hab, hcb⟩ := hcell (by omega)
          obtain ⟨p1, hnm, pa, pn, pc, p3, p4⟩ := hcb i hlt
          have hil : i < fs.length := by rw [HFL.out]; exact hlt
          have hpg := HI.out.pg i hil
          have hpl := HA.out i hlt
          rw [p4.1] at hpg hpl
          have hbk : ab < wr.heap.size := by omega
          have hpcm := p4.2.2.1
          have hpnc := p4.2.1
          unfold maxLen at hpcm
          have hby := p4.2.2.2.1
          obtain ⟨db, dof, rfl, hdb, hdc⟩ := p4.2.2.2.2.1 (by omega)
          have HDL : Hid ((fs.getD i (ByteArray.empty, [])).2.length = pn) := p4.1
          have HBY : Hid (∀ x ∈ (fs.getD i (ByteArray.empty, [])).2, 0 ≤ x ∧ x ≤ 255) := hby
          have HDC : Hid (∀ t, t < pn → wr.cell? ⟨db, dof + t, none⟩ = some (.int .u8 ((fs.getD i (ByteArray.empty, [])).2.getD t 0))) := hdc
          clear hcell hcb p4 hby hdc
          obtain ⟨f1, hf1⟩ : ∃ x, x = (fs.getD i (ByteArray.empty, [])).1 := ⟨_, rfl⟩
          rw [← hf1] at p1 hnm
          have HF1 : Hid (f1 = (fs.getD i (ByteArray.empty, [])).1) := hf1
          clear hf1
          have hal : Below wr.heap.size wr (wr.alloc (.cells #[.string f1, .slice (some ⟨db, dof, none⟩) pn pc] 71)) := (Below.refl _ _).alloc (Nat.le_refl _) _
          have hbx := heap_alloc_new wr (.cells #[.string f1, .slice (some ⟨db, dof, none⟩) pn pc] 71)
          have hM1 : Hid (MapS (wr.alloc (.cells #[.string f1, .slice (some ⟨db, dof, none⟩) pn pc] 71)) w2.heap.size q D) := HM.out.alloc _
          have hF1 : Hid (Fr (fun x => x = w2.heap.size) (w2.alloc (.map #[] 0)) (wr.alloc (.cells #[.string f1, .slice (some ⟨db, dof, none⟩) pn pc] 71))) := HFr.out.trans (Fr.of_below hal)
          have hR1 : Hid (RepS D (pageOf (someF fs i 0))) := rep_start HI.out hil HRp.out
          have HDC1 : Hid (∀ t, t < pn → (wr.alloc (.cells #[.string f1, .slice (some ⟨db, dof, none⟩) pn pc] 71)).cell? ⟨db, dof + t, none⟩ = some (.int .u8 ((fs.getD i (ByteArray.empty, [])).2.getD t 0))) := fun t ht => (hal.cell (p := ⟨db, dof + t, none⟩) (by show db < _; omega)).trans (HDC.out t ht)
          have hdv : (pn : Int) / 128 = ((pn / 128 : Nat) : Int) := by omega
          have hnp : pn / 128 ≤ 8192 := by omega
          obtain ⟨fb, hfb⟩ : ∃ fb, fb = wr.heap.size := ⟨_, rfl⟩
          have hfbW : fb < (wr.alloc (.cells #[.string f1, .slice (some ⟨db, dof, none⟩) pn pc] 71)).heap.size := by rw [hfb]; exact (Array.getElem?_eq_some_iff.1 hbx).1
          rw [← hfb] at hbx
          have hfbm : w2.heap.size < fb := by omega
          have HDV : Hid ((pn : Int) / 128 = ((pn / 128 : Nat) : Int)) := hdv
          have hdbm : db < w2.heap.size := by omega
          clear hdv HDC HM HFr HRp
          go_wp2
          rw [HDV.out]
          generalize wr.alloc (.cells #[.string f1, .slice (some ⟨db, dof, none⟩) pn pc] 71) = wf at hbx hM1 hF1 HDC1 hfbW ⊢
          obtain ⟨np, hnpe⟩ : ∃ np, np = pn / 128 := ⟨_, rfl⟩
          rw [← hnpe] at hnp HDV ⊢
          have HNP : Hid (np = pn / 128) := hnpe
          have hnpm : np * 128 ≤ pn := by omega
          clear hnpe
          rw [← hfb]
          clear hfb
          go_loopw [9, 40] (fun _ t wv => ∃ (j q2 : Nat) (D2 : DataW Unit), j ≤ np ∧ t = .int .i64 j ∧ q2 ≤ i * 8192 + j ∧ Hid (MapS wv w2.heap.size q2 D2) ∧ Hid (RepS D2 (pageOf (someF fs i j))) ∧ Hid (Fr (fun x => x = w2.heap.size) wf wv)) (fun _ t _ => np - (intOf t).toNat)
          case atStart => exact ⟨0, q, D, Nat.zero_le _, rfl, by omega, hM1, hR1, Fr.refl _ _⟩
          case round =>
            obtain ⟨j, q2, D2, hj, rfl, hq2, HM, HRp, HFr⟩ := hrel
            have hbxv := (HFr.out.block fb hfbW (by omega)).trans hbx
            have hsv := HFr.out.size
            have hfbv : fb < wr.heap.size := by omega
            obtain ⟨c0, c1⟩ := box_two2D hbxv
            by_cases hlj : j < np
            · obtain ⟨pgb, hpgb⟩ : ∃ x, x = ((fs.getD i (ByteArray.empty, [])).2.drop (j * 128)).take 128 := ⟨_, rfl⟩
              have hpgl : pgb.length = 128 := by rw [hpgb, List.length_take, List.length_drop, HDL.out]; omega
              have hpgr : ∀ x ∈ pgb, 0 ≤ x ∧ x ≤ 255 := fun x hx => HBY.out x (by rw [hpgb] at hx; exact List.mem_of_mem_drop (List.mem_of_mem_take hx))
              have hrg : wr.rangeAt db (dof + j * 128) (u8s pgb) := by
                rw [hpgb]
                exact range_page (fun t ht => (World.cell?_of_block (a := ⟨db, dof + t, none⟩) (HFr.out.block db (by omega) (by omega))).trans (HDC1.out t ht)) HDL.out (by omega)
              have hjw : (Lit.int .i64 (j : Int)).wf = true := WalkArith.wf_i64 (by omega)
              have hval : sheetR (.agg (u8s pgb).toArray) = some (shD pgb, []) := sheetR_mk hpgl hpgr
              have hInfo : (Tryz.prog.info? 82).map (·.size) = some (u8s pgb).length := by rw [infoSheet]; simp [u8s, hpgl]
              have HSTEP : Hid (RepS (D2.put (kPl f1 (j : Int)) (shD pgb)) (pageOf (someF fs i (j + 1)))) := by
                show RepS _ _
                rw [HF1.out, hpgb]
                exact rep_step HI.out hil HRp.out HM.out.isMap (by rw [HDL.out]; omega) (by rw [← HF1.out]; exact hnm) hjw
              have hS0 : wr.cell? ⟨fb, 0, none⟩ = some (.string f1) ∧ wr.cell? ⟨fb, 1, none⟩ = some (.slice (some ⟨db, dof, none⟩) pn pc) ∧ wr.rangeAt db (dof + j * 128) (u8s pgb) := ⟨c0, c1, hrg⟩
              have jw1 : IntKind.i64.wrap ((j : Int) * 128) = (j : Int) * 128 := by rw [IntKind.wrap_i64]; omega
              have jw2 : IntKind.i64.wrap ((j : Int) + 1) = (j : Int) + 1 := by rw [IntKind.wrap_i64]; omega
              have jw3 : IntKind.i64.wrap (((j : Int) + 1) * 128) = ((j : Int) + 1) * 128 := by rw [IntKind.wrap_i64]; omega
              have jn1 : ((j : Int) * 128).toNat = j * 128 := by omega
              have jn2 : (((j : Int) + 1) * 128).toNat = (j + 1) * 128 := by omega
              clear hpgb hrg
              go_wp2_with fail
              refine wp_region_noPanic ?_
              refine wp_region_held_drew (S := (fun w' => w'.cell? ⟨fb, 0, none⟩ = some (.string f1) ∧ w'.cell? ⟨fb, 1, none⟩ = some (.slice (some ⟨db, dof, none⟩) pn pc) ∧ w'.rangeAt db (dof + j * 128) (u8s pgb))) (by kernel_rfl) ?_ (fun hHeld => ?_)
              · exact hS0
              clear c0 c1
              refine wpAnyH_take (i := 0) (oi := { dst := some 43, op := Op.move (Operand.tmp 6), type := 49, pos := "l1_disk.go:238", after := #[], guard := none }) (v := ?_) rfl (by kernel_rfl) (by kernel_rfl) (by kernel_rfl) (fun _ _ _ h => h) (Or.inl ⟨by rfl, ?_⟩) (by assumption) ?_
              rotate_left 1
              · intro w hSw; (try dsimp only at hSw); go_simp; try (with_reducible rfl)
              try simp only [Act.put, List.setIfInBounds_toArray, List.set_cons_zero, List.set_cons_succ]
              refine wpAnyH_take (i := 1) (oi := { dst := some 44, op := Op.fieldAddr 71 (Operand.tmp 8) 0, type := 0, pos := "l1_disk.go:238", after := #[], guard := none }) (v := ?_) rfl (by kernel_rfl) (by kernel_rfl) (by kernel_rfl) (fun _ _ _ h => h) (Or.inl ⟨by rfl, ?_⟩) (by assumption) ?_
              rotate_left 1
              · intro w hSw; (try dsimp only at hSw); go_simp; try (with_reducible rfl)
              try simp only [Act.put, List.setIfInBounds_toArray, List.set_cons_zero, List.set_cons_succ]
              refine wpAnyH_take (i := 2) (oi := { dst := some 45, op := Op.load 9 (Operand.tmp 44), type := 9, pos := "l1_disk.go:238", after := #[{ on := 1, ground := Ground.data }], guard := none }) (v := ?_) rfl (by kernel_rfl) (by kernel_rfl) (by kernel_rfl) (fun _ _ _ h => h) (Or.inl ⟨by rfl, ?_⟩) (by assumption) ?_
              rotate_left 1
              · intro w hSw; (try dsimp only at hSw); go_simp; try (with_reducible rfl)
              try simp only [Act.put, List.setIfInBounds_toArray, List.set_cons_zero, List.set_cons_succ]
              refine wpAnyH_take (i := 3) (oi := { dst := some 46, op := Op.move (Operand.tmp 9), type := 2, pos := "l1_disk.go:238", after := #[], guard := none }) (v := ?_) rfl (by kernel_rfl) (by kernel_rfl) (by kernel_rfl) (fun _ _ _ h => h) (Or.inl ⟨by rfl, ?_⟩) (by assumption) ?_
              rotate_left 1
              · intro w hSw; (try dsimp only at hSw); go_simp; try (with_reducible rfl)
              try simp only [Act.put, List.setIfInBounds_toArray, List.set_cons_zero, List.set_cons_succ]
              refine wpAnyH_take (i := 4) (oi := { dst := some 47, op := Op.build 84 #[(0, Operand.tmp 45), (1, Operand.tmp 46)], type := 84, pos := "l1_disk.go:238", after := #[{ on := 2, ground := Ground.data }, { on := 3, ground := Ground.data }], guard := none }) (v := ?_) rfl (by kernel_rfl) (by kernel_rfl) (by kernel_rfl) (fun _ _ _ h => h) (Or.inl ⟨by rfl, ?_⟩) (by assumption) ?_
              rotate_left 1
              · intro w hSw; (try dsimp only at hSw); go_simp; try (with_reducible rfl)
              try simp only [Act.put, List.setIfInBounds_toArray, List.set_cons_zero, List.set_cons_succ]
              refine wpAnyH_take (i := 5) (oi := { dst := some 48, op := Op.fieldAddr 71 (Operand.tmp 8) 1, type := 0, pos := "l1_disk.go:238", after := #[], guard := none }) (v := ?_) rfl (by kernel_rfl) (by kernel_rfl) (by kernel_rfl) (fun _ _ _ h => h) (Or.inl ⟨by rfl, ?_⟩) (by assumption) ?_
              rotate_left 1
              · intro w hSw; (try dsimp only at hSw); go_simp; try (with_reducible rfl)
              try simp only [Act.put, List.setIfInBounds_toArray, List.set_cons_zero, List.set_cons_succ]
              refine wpAnyH_take (i := 6) (oi := { dst := some 49, op := Op.load 43 (Operand.tmp 48), type := 43, pos := "l1_disk.go:238", after := #[{ on := 5, ground := Ground.data }], guard := none }) (v := ?_) rfl (by kernel_rfl) (by kernel_rfl) (by kernel_rfl) (fun _ _ _ h => h) (Or.inl ⟨by rfl, ?_⟩) (by assumption) ?_
              rotate_left 1
              · intro w hSw; (try dsimp only at hSw); go_simp; try (with_reducible rfl)
              try simp only [Act.put, List.setIfInBounds_toArray, List.set_cons_zero, List.set_cons_succ]
              refine wpAnyH_take (i := 7) (oi := { dst := some 50, op := Op.move (Operand.tmp 9), type := 2, pos := "l1_disk.go:238", after := #[], guard := none }) (v := ?_) rfl (by kernel_rfl) (by kernel_rfl) (by kernel_rfl) (fun _ _ _ h => h) (Or.inl ⟨by rfl, ?_⟩) (by assumption) ?_
              rotate_left 1
              · intro w hSw; (try dsimp only at hSw); go_simp; try (with_reducible rfl)
              try simp only [Act.put, List.setIfInBounds_toArray, List.set_cons_zero, List.set_cons_succ]
              refine wpAnyH_take (i := 8) (oi := { dst := some 51, op := Op.binOp BinOp.mul 2 (Operand.tmp 50) (Operand.const (Value.int IntKind.i64 128)) 2, type := 2, pos := "l1_disk.go:238", after := #[{ on := 7, ground := Ground.data }], guard := none }) (v := .int .i64 ((j : Int) * 128)) rfl (by kernel_rfl) (by kernel_rfl) (by kernel_rfl) (fun _ _ _ h => h) (Or.inl ⟨by rfl, ?_⟩) (by assumption) ?_
              · intro w hSw; (try dsimp only at hSw); go_simp
              try simp only [Act.put, List.setIfInBounds_toArray, List.set_cons_zero, List.set_cons_succ]
              refine wpAnyH_take (i := 9) (oi := { dst := some 52, op := Op.move (Operand.tmp 9), type := 2, pos := "l1_disk.go:238", after := #[], guard := none }) (v := ?_) rfl (by kernel_rfl) (by kernel_rfl) (by kernel_rfl) (fun _ _ _ h => h) (Or.inl ⟨by rfl, ?_⟩) (by assumption) ?_
              rotate_left 1
              · intro w hSw; (try dsimp only at hSw); go_simp; try (with_reducible rfl)
              try simp only [Act.put, List.setIfInBounds_toArray, List.set_cons_zero, List.set_cons_succ]
              refine wpAnyH_take (i := 10) (oi := { dst := some 53, op := Op.binOp BinOp.add 2 (Operand.tmp 52) (Operand.const (Value.int IntKind.i64 1)) 2, type := 2, pos := "l1_disk.go:238", after := #[{ on := 9, ground := Ground.data }], guard := none }) (v := .int .i64 ((j : Int) + 1)) rfl (by kernel_rfl) (by kernel_rfl) (by kernel_rfl) (fun _ _ _ h => h) (Or.inl ⟨by rfl, ?_⟩) (by assumption) ?_
              · intro w hSw; (try dsimp only at hSw); go_simp
              try simp only [Act.put, List.setIfInBounds_toArray, List.set_cons_zero, List.set_cons_succ]
              refine wpAnyH_take (i := 11) (oi := { dst := some 54, op := Op.binOp BinOp.mul 2 (Operand.tmp 53) (Operand.const (Value.int IntKind.i64 128)) 2, type := 2, pos := "l1_disk.go:238", after := #[{ on := 10, ground := Ground.data }], guard := none }) (v := .int .i64 (((j : Int) + 1) * 128)) rfl (by kernel_rfl) (by kernel_rfl) (by kernel_rfl) (fun _ _ _ h => h) (Or.inl ⟨by rfl, ?_⟩) (by assumption) ?_
              · intro w hSw; (try dsimp only at hSw); go_simp
              try simp only [Act.put, List.setIfInBounds_toArray, List.set_cons_zero, List.set_cons_succ]
              refine wpAnyH_take (i := 12) (oi := { dst := some 55, op := Op.slice 43 (Operand.tmp 49) (some (Operand.tmp 51)) (some (Operand.tmp 54)) none, type := 43, pos := "l1_disk.go:238", after := #[{ on := 6, ground := Ground.data }, { on := 8, ground := Ground.data }, { on := 11, ground := Ground.data }], guard := none }) (v := .slice (some ⟨db, dof + j * 128, none⟩) 128 (pc - j * 128)) rfl (by kernel_rfl) (by kernel_rfl) (by kernel_rfl) (fun _ _ _ h => h) (Or.inl ⟨by rfl, ?_⟩) (by assumption) ?_
              · intro w hSw; (try dsimp only at hSw); go_simp; rw [if_neg (show ¬ pc = j * 128 by omega), show (j + 1) * 128 - j * 128 = 128 by omega]; rw [if_pos (show (0 : Int) ≤ ((j : Int) + 1) * 128 ∧ ((j : Int) + 1) * 128 ≤ (pc : Int) by omega), if_pos (show (0 : Int) ≤ (j : Int) * 128 ∧ (j : Int) ≤ (j : Int) + 1 by omega)]
              try simp only [Act.put, List.setIfInBounds_toArray, List.set_cons_zero, List.set_cons_succ]
              refine wpAnyH_take (i := 13) (oi := { dst := some 56, op := Op.sliceToArrayPointer 82 (Operand.tmp 55), type := 0, pos := "l1_disk.go:238", after := #[{ on := 12, ground := Ground.data }], guard := none }) (v := .pointer (some ⟨db, dof + j * 128, none⟩)) rfl (by kernel_rfl) (by kernel_rfl) (by kernel_rfl) (fun _ _ _ h => h) (Or.inl ⟨by rfl, ?_⟩) (by assumption) ?_
              · intro w hSw; (try dsimp only at hSw); have har := run_arrayAtS db (dof + j * 128) 128 (pc - j * 128) w (by omega); go_simp
              try simp only [Act.put, List.setIfInBounds_toArray, List.set_cons_zero, List.set_cons_succ]
              refine wpAnyH_take (i := 14) (oi := { dst := some 57, op := Op.load 82 (Operand.tmp 56), type := 82, pos := "l1_disk.go:238", after := #[{ on := 13, ground := Ground.data }], guard := none }) (v := .agg (u8s pgb).toArray) rfl (by kernel_rfl) (by kernel_rfl) (by kernel_rfl) (fun _ _ _ h => h) (yieldsIf_load_mid (by rfl) _ _ rfl db (dof + j * 128) (by simp [Act.eval]) (u8s pgb) _ (fun _ hS => hS.2.2) Tryz.underlying82 rfl hInfo) (by assumption) ?_
              try simp only [Act.put, List.setIfInBounds_toArray, List.set_cons_zero, List.set_cons_succ]
              refine wpAnyH_ready (rs := [15]) (by kernel_rfl) (by simp) ?_
              refine AllReadyH.cons (o := { dst := none, op := Op.mapUpdate 49 (Operand.tmp 43) (Operand.tmp 47) (Operand.tmp 57), type := 0, pos := "l1_disk.go:238", after := #[{ on := 0, ground := Ground.data }, { on := 4, ground := Ground.data }, { on := 14, ground := Ground.data }, { on := 0, ground := Ground.phase }, { on := 1, ground := Ground.phase }, { on := 2, ground := Ground.phase }, { on := 3, ground := Ground.phase }, { on := 4, ground := Ground.phase }, { on := 5, ground := Ground.phase }, { on := 6, ground := Ground.phase }, { on := 7, ground := Ground.phase }, { on := 8, ground := Ground.phase }, { on := 9, ground := Ground.phase }, { on := 10, ground := Ground.phase }, { on := 11, ground := Ground.phase }, { on := 12, ground := Ground.phase }, { on := 13, ground := Ground.phase }, { on := 14, ground := Ground.phase }], guard := none }) rfl (fun K hK => ?_) ?_
              rotate_left 1
              exact AllReadyH.nil
              · obtain ⟨wu, hrun, hMu, hgu⟩ := (World.ownsMap.drew HM.out).update lawPl Tryz.underlying49 (by unfold maxLen; omega) (keyOf_pl hnm hjw) (val := .agg (u8s pgb).toArray) hval
                have S2 : (fun w' => w'.cell? ⟨fb, 0, none⟩ = some (.string f1) ∧ w'.cell? ⟨fb, 1, none⟩ = some (.slice (some ⟨db, dof, none⟩) pn pc) ∧ w'.rangeAt db (dof + j * 128) (u8s pgb)) wu := ⟨(World.cell?_of_block (hgu.block fb (show fb < wr.heap.size by omega) (fun e => by injection e with e; omega))).trans hS0.1, (World.cell?_of_block (hgu.block fb (show fb < wr.heap.size by omega) (fun e => by injection e with e; omega))).trans hS0.2.1, fun t v ht => (World.cell?_of_block (hgu.block db (show db < wr.heap.size by omega) (fun e => by injection e with e; omega))).trans (hS0.2.2 t v ht)⟩
                go_simp
                refine hK.out _ _ S2 (fun hHeld => ?_)
                clear hK K
                try simp only [Act.put, List.setIfInBounds_toArray, List.set_cons_zero, List.set_cons_succ]
                refine wpAnyH_done (by kernel_rfl) ?_ _
                refine NoPanic.normal ?_
                have hFu : Hid (Fr (fun x => x = w2.heap.size) wf wu) := (HFr.out.trans (Fr.of_below (Below.refl _ _).drew)).trans (Fr.of_grown hgu (fun x e => by injection e with e; exact e.symm))
                have hMu2 : Hid (MapS wu w2.heap.size (q2 + 1) (D2.put (kPl f1 (j : Int)) (shD pgb))) := hMu
                have hRu : Hid (RepS (D2.put (kPl f1 (j : Int)) (shD pgb)) (pageOf (someF fs i (j + 1)))) := HSTEP.out
                clear hMu hgu hrun S2 hS0 HM HFr HRp HSTEP hval
                go_wp2
                go_roundw
                case rel => exact ⟨j + 1, q2 + 1, _, by omega, by go_num, by omega, hMu2, hRu, hFu⟩
                case measure => simp [intOf]; omega
            · obtain rfl : j = np := by omega
              have hR2 : Hid (RepS D2 (pageOf (fs.take (i + 1)))) := rep_next HI.out hil (by rw [HDL.out, ← HNP.out]; exact HRp.out)
              have hF2 : Hid (Fr (fun x => x = w2.heap.size) (w2.alloc (.map #[] 0)) wr) := hF1.out.trans HFr.out
              clear c0 c1 hbxv
              go_wp2
              go_roundw
              case rel => exact ⟨i + 1, q2, D2, by omega, by go_num, by omega, HM, hR2, hF2⟩
              case measure => simp [intOf]; omega
        · obtain rfl : i = k := by omega
          have hR3 : RepS D (pageOf fs) := by have := HRp.out; rwa [List.take_of_length_le (by rw [HFL.out]; exact Nat.le_refl _)] at this
          go_wp2
          go_ret
          exact ⟨w2.heap.size, q, D, rfl, by omega, HM.out, by omega, hR3, hbw2⟩
end Go.Proofs.YtnpndbicmamggaaGreat
