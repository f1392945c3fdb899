import Derived.Test.YtmmdkjeoadlikaaCpy
import Derived.Test.YtmmdkjeoadlikaaAp2
import Derived.Deep.RegionHeld3
namespace Go.Proofs.Ytmmdkjeoadlikaa
open Go.RowKit
set_option linter.unusedVariables false
set_option maxRecDepth 100000

/-- append to a slice of one's own, as one step of a region that draws, and where the answer lies. -/
theorem step_append_ownD {P : Program} {ops : Array Oper} {o : Oper} {a : Act} {w : World} {K : Act → World → Prop} {Q : Exit → Act → World → Prop} {E : Prop}
    (hgd : o.guard = none) (s x : Operand) (t : TypeId) (ho : o.op = .call { callee := .builtin .append, args := #[s, x], argTypes := #[t, t] })
    (base : Nat) (e : TypeId) (i : TypeInfo) (z : Value) (size bytes : Nat) (ht : P.underlying t = some (.slice e)) (hi : P.info? e = some i) (hz : i.zero = some z)
    (hsize : i.size = size) (hby : i.bytes = bytes) (hzs : z.cells.size = size) (hsz : 0 < size)
    (v : Value) (n : Nat) (xs : List Value) (hs : a.eval s = v) (hown : w.ownsRow base e size v n xs)
    (ad : Addr) (m c : Nat) (news : List Value) (hx : a.eval x = .slice (some ad) m c) (hl : news.length = m * size) (hnews : ∀ j u, news[j]? = some u → w.cell? (ad.add j) = some u) (h1 : ∀ u ∈ news, u.oneCell' = true)
    (h63 : n + m ≤ maxLen) (hbytes : (n + m) * bytes ≤ 140737488355328) (hbase : base ≤ w.heap.size)
    (h : ∀ v' w', w'.ownsRow base e size v' (n + m) (xs ++ news) → w.grownBy w' v.ownBlock → (v'.ownBlock = v.ownBlock ∨ ∀ g, v'.ownBlock = some g → w.heap.size ≤ g) → K (a.put o.dst v') w') :
    if Region.wanted o (yielded ops a.tmps) = true then Oper.wp P o a w K Q else E := by
  rw [if_pos (by simp [Region.wanted, hgd])]
  obtain ⟨v', w', hr, h2, h3, h4⟩ := run_append_ownD (P := P) w base t o.type e i z size bytes ht hi hz hsize hby hzs hsz v n xs hown ad m c news hl hnews h1 h63 hbytes hbase
  unfold Oper.wp execOp
  simp only [ho, resolve, invoke, builtin, Sem.run_bind, Sem.run_pure, Result.andThen_ok, List.map_toArray, List.map_cons, List.map_nil, hs, hx, hr]
  exact h v' w' h2 h3 h4
/-- The state inside l1Copy: d's block, the result's block, out's block; the files copied, the writes copied so far. -/
structure CSt (w X : World) (cp fu : Int) (de : Bool) (sa sb v u : Value) (fs : List PF) (xs vs : List Value) (ps : List PP) (ys us : List Value) : Prop where
  d : X.heap[w.heap.size]? = some (.cells #[sa, sb, .int .i64 cp, .int .i64 fu, .bool de] 32)
  r : X.heap[w.heap.size + 1]? = some (.cells #[.slice none 0 0, .slice none 0 0, .int .i64 0, .int .i64 0, .bool false] 32)
  o : X.heap[w.heap.size + 1 + 1]? = some (.cells #[v, u, .int .i64 cp, .int .i64 fu, .bool de] 32)
  files : OwnF X (w.heap.size + 3) v fs xs vs
  cache : OwnP X (w.heap.size + 3) u ps ys us
  apart : ∀ g, Blk v vs g → ¬ Blk u us g
  bel : Below w.heap.size w X
theorem CSt.lt {w X : World} {cp fu : Int} {de : Bool} {sa sb v u : Value} {fs : List PF} {xs vs : List Value} {ps : List PP} {ys us : List Value} (h : CSt w X cp fu de sa sb v u fs xs vs ps ys us) : w.heap.size + 1 + 1 < X.heap.size := (Array.getElem?_eq_some_iff.1 h.o).1
theorem CSt.below {w X X' : World} {cp fu : Int} {de : Bool} {sa sb v u : Value} {fs : List PF} {xs vs : List Value} {ps : List PP} {ys us : List Value} (h : CSt w X cp fu de sa sb v u fs xs vs ps ys us) (hb : Below X.heap.size X X') : CSt w X' cp fu de sa sb v u fs xs vs ps ys us := by
  have hl := h.lt
  exact ⟨(hb.block _ (by omega)).trans h.d, (hb.block _ (by omega)).trans h.r, (hb.block _ hl).trans h.o, h.files.below hb, h.cache.below hb, h.apart, h.bel.trans (hb.mono h.bel.size)⟩
/-- One write more in out. -/
theorem CSt.push {w X X1 X2 X3 : World} {cp fu : Int} {de : Bool} {sa sb v u u' vb : Value} {fs : List PF} {xs vs : List Value} {ps : List PP} {ys us : List Value} {f : PP} (h : CSt w X cp fu de sa sb v u fs xs vs ps ys us) (hb : Below X.heap.size X X1)
    (hvb : X1.ownsRow X.heap.size 5 1 vb f.2.2.length (u8s f.2.2)) (hs : f.1.size ≤ maxLen) (hpg : -9223372036854775808 ≤ f.2.1 ∧ f.2.1 ≤ 9223372036854775807) (hby : ∀ x ∈ f.2.2, 0 ≤ x ∧ x ≤ 255) (hb2 : Below X1.heap.size X1 X2)
    (hrow : X3.ownsRow (w.heap.size + 3) 77 3 u' (ps.length + 1) (ys ++ [.string f.1, .int .i64 f.2.1, vb])) (hgr : X2.grownBy X3 u.ownBlock) (hlies : u'.ownBlock = u.ownBlock ∨ ∀ g, u'.ownBlock = some g → X2.heap.size ≤ g) :
    CSt w (X3.setCell ⟨w.heap.size + 1 + 1, 1, none⟩ u') cp fu de sa sb v u' fs xs vs (ps ++ [f]) (ys ++ [.string f.1, .int .i64 f.2.1, vb]) (us ++ [vb]) := by
  have hl := h.lt
  have hs1 := hb.size
  have hs2 := hb2.size
  have h2 := (h.below hb).below hb2
  have hF : Fr (fun g => u.ownBlock = some g) X2 X3 := Fr.of_grown hgr (fun g e => e)
  have hub : ∀ g, u.ownBlock = some g → w.heap.size + 3 ≤ g := fun g e => (h.cache.row.lt g e).1
  have hpush := OwnP.push h.cache (by omega) hb hvb hs hpg hby hb2 hrow hgr
  have hset := fr_setCell X3 (w.heap.size + 1 + 1) 1 u'
  have ho3 : X3.heap[w.heap.size + 1 + 1]? = _ := (hF.block _ (by omega) (fun e => by have := hub _ e; omega)).trans h2.o
  have hfil3 : OwnF X3 (w.heap.size + 3) v fs xs vs := h2.files.fr hF (fun g hg e => h.apart g hg (.inl e))
  refine ⟨(hset.block _ (by have := hF.size; omega) (by omega)).trans ((hF.block _ (by omega) (fun e => by have := hub _ e; omega)).trans h2.d), (hset.block _ (by have := hF.size; omega) (by omega)).trans ((hF.block _ (by omega) (fun e => by have := hub _ e; omega)).trans h2.r), by simpa using heap_setCell_at ho3 1 u', hfil3.fr hset (fun g hg e => by have := (hfil3.blk hg).1; omega), hpush.fr hset (fun g hg e => by have := (hpush.blk hg).1; omega), ?_, (h2.bel.trans (hF.below (by have := h2.bel.size; omega) (fun g e => by have := hub g e; omega))).trans (hset.below (by have := hF.size; have := h2.bel.size; omega) (fun g e => by omega))⟩
  intro g hg hg2
  have hgl := (h.files.blk hg).2
  rcases hg2 with e | ⟨j, hj, e⟩
  · rcases hlies with hli | hli
    · rw [hli] at e; exact h.apart g hg (.inl e)
    · have := hli g e; omega
  · rw [List.length_append, List.length_singleton] at hj
    by_cases hjl : j < us.length
    · rw [getD_snoc_lt _ _ _ _ hjl] at e; exact h.apart g hg (.inr ⟨j, hjl, e⟩)
    · obtain rfl : j = us.length := by omega
      rw [getD_snoc_eq] at e
      have := (hvb.lt g e).1
      omega
end Go.Proofs.Ytmmdkjeoadlikaa
