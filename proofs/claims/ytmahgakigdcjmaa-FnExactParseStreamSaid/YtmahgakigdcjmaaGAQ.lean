import Derived.Test.YtmahgakigdcjmaaGAA
import Derived.Test.YtmahgakigdcjmaaGAB
import Derived.Test.YtmahgakigdcjmaaGAC
import Derived.Test.YtmahgakigdcjmaaGAM
import Derived.Test.YtmahgakigdcjmaaGAN
import Derived.Test.YtmahgakigdcjmaaGAP
import Derived.ArgAppend
import Derived.Deep.RegionHeld3
import Derived.Test.YtmahgakigdcjmaaChecked
import Derived.Deep.QuietTactic
import Derived.BigQuiet
import Derived.Deep.RegionWith
import Derived.WalkSpells
import Derived.WalkLawsBesides
namespace Go.Proofs.Ytmahgakigdcjmaa
namespace New
open Go.RowKit
set_option linter.unusedVariables false
set_option maxRecDepth 100000

theorem newPages_any (w : World) : Calls Try.prog 37 #[] w fun e w' => e = .returned (.agg #[.int .i64 2, .int .i64 999]) ∧ Below w.heap.size w w' := by
  go_enter Try.func37, Try.ntmps37
  go_wp2
  exact bodyPost_ret (v := .agg #[.int .i64 2, .int .i64 999]) (by simp [results, Try.results37, go_sem]) rfl ⟨rfl, by first | exact Below.refl _ _ | exact (Below.refl _ _).alloc (Nat.le_refl _) _⟩
set_option maxHeartbeats 400000 in
theorem isStamp_any (x : Int) (w : World) : Calls Try.prog 36 #[.int .i64 x] w fun e w' => e = .returned (.bool (inB 1 2000000000 x)) ∧ w' = w := by
  by_cases h1 : 1 ≤ x
  · go_enter Try.func36, Try.ntmps36
    go_wp2
    go_ret
    exact ⟨by simp [inB, h1], rfl⟩
  · have hd : decide (1 ≤ x) = false := by simp; omega
    go_enter Try.func36, Try.ntmps36
    go_wp2
    go_ret
    exact ⟨by simp [inB]; omega, rfl⟩
theorem newCursor_any (G : Nat) (L : List Int) (hl : L.length = 128) (w : World) (hr : w.ownsRow 0 5 1 (.slice (some ⟨G, 0, none⟩) 128 128) 128 (u8s L)) :
    Calls Try.prog 40 #[.slice (some ⟨G, 0, none⟩) 128 128] w fun e w' => e = .returned (.pointer (some ⟨w.heap.size, 0, none⟩)) ∧ Cur w' w.heap.size G false 53 54 0 L ∧ Below w.heap.size w w' := by
  go_enter Try.func40, Try.ntmps40
  go_wp2
  go_ret
  exact ⟨rfl, ⟨heap_alloc_new w _, hr.alloc _, hl⟩, (Below.refl _ _).alloc (Nat.le_refl _) _⟩
theorem implCrc0 (a : Option Addr) (n cc : Nat) (bs : List Int) (w : World) (A B : Nat) (h : BytesAt w A B a n cc bs) :
    Calls Try.prog 42 #[.int .u32 0, .slice a n cc] w fun e w' => e = .returned (.int .u32 (crcOf bs)) ∧ w' = w := implCrc_any 0 (by omega) a n cc bs w A B h

theorem lay_zero {n : Nat} {bs : List Int} (h : bs.length ≤ n) : lay (List.replicate n 0) 0 bs = padB n bs := by
  simp [lay, padB]
theorem pad_take {bs : List Int} (h : bs.length ≤ 120) : (padB 128 bs).take 120 = padB 120 bs := by
  unfold padB
  rw [List.take_append, List.take_of_length_le h, List.take_replicate]
  congr 2
  omega
theorem pad_lay {bs s : List Int} (h : bs.length ≤ 120) (hs : s.length = 8) : lay (padB 128 bs) 120 s = padB 120 bs ++ s := by
  have hl : (padB 128 bs).length = 128 := by simp [padB]; omega
  unfold lay
  rw [pad_take h, List.drop_eq_nil_of_le (by simp [hl, hs])]
  simp
theorem padB_len {n : Nat} {bs : List Int} (h : bs.length ≤ n) : (padB n bs).length = n := by simp [padB]; omega
theorem padB_byte {n : Nat} {bs : List Int} (h : ∀ x ∈ bs, 0 ≤ x ∧ x ≤ 255) : ∀ x ∈ padB n bs, 0 ≤ x ∧ x ≤ 255 := bytes_app h (by intro x hx; have := List.eq_of_mem_replicate hx; omega)
theorem owns_raise {w : World} {e size G n c N : Nat} {xs : List Value} (h : w.ownsRow 0 e size (.slice (some ⟨G, 0, none⟩) n c) n xs) (hN : N ≤ G) : w.ownsRow N e size (.slice (some ⟨G, 0, none⟩) n c) n xs := by
  refine ⟨h.1, ?_⟩
  rcases h.2 with ⟨h0, _⟩ | ⟨g, cap, cur, h0, _, rest⟩
  · cases h0
  · injection h0 with h1 _ h4
    injection h1 with h2
    injection h2 with h3
    subst h3 h4
    exact .inr ⟨G, c, cur, rfl, hN, rest⟩
/-- The head and the body of a new page's code. -/
def headN (tx k c : Int) (b : List Int) : List Int := leB 4 tx ++ [k] ++ [c] ++ [0, 0] ++ b
theorem headN_eq (tx k c : Int) (b : List Int) : headN tx k c b = leB 4 tx ++ [k, c, 0, 0] ++ b := by simp [headN]
theorem bytes120 {w : World} {C G k pf gf : Nat} {old : Bool} {L : List Int} (h : Cur w C G old pf gf k L) (hb : ∀ x ∈ L, 0 ≤ x ∧ x ≤ 255) : BytesAt w 0 w.heap.size (some ⟨G, 0, none⟩) 120 128 (L.take 120) := by
  have hl := h.len
  refine ⟨by simp [hl], by omega, by unfold maxLen; omega, fun x hx => hb x (List.mem_of_mem_take hx), fun _ => ⟨G, 0, rfl, ⟨Nat.zero_le _, (h.row.lt G rfl).2⟩, fun i hi => ?_⟩, fun h => by cases h⟩
  rw [Nat.zero_add, h.row.cellAt i (by omega)]
  simp [u8s, List.getD, hi, hl, show i < 128 by omega]
theorem Wrote.start {w w2 : World} {C G pf gf : Nat} {old : Bool} {L bs : List Int} (hV : Wrote w.drew w2 C G old pf gf 0 L bs) : Wrote w w2 C G old pf gf 0 L bs :=
  ⟨hV.1, (Fr.of_below (Below.refl _ _).drew).trans hV.2⟩
theorem Wrote.redraw {w w2 : World} {C G k pf gf : Nat} {old : Bool} {L bs : List Int} (hV : Wrote w.drew w2 C G old pf gf k L bs) : Wrote w w2 C G old pf gf k L bs :=
  ⟨hV.1, (Fr.of_below (Below.refl _ _).drew).trans hV.2⟩
theorem num2_zero : numB false 2 0 = [0, 0] := by decide
theorem made128 : (madeCells (Value.int .u8 0).cells (128 * 1)).toList = u8s (List.replicate 128 0) := by kernel_rfl
theorem ahead_meta_valid (a : Addr) (w : World) : (nilAhead 247 113 (.pointer (some a)) "loop.example/s02098/impl.valid").run Try.prog w = .ok (some false) w := by kernel_rfl
theorem ahead_meta_count (a : Addr) (w : World) : (nilAhead 247 113 (.pointer (some a)) "loop.example/s02098/impl.count").run Try.prog w = .ok (some false) w := by kernel_rfl
theorem ahead_meta_write (a : Addr) (w : World) : (nilAhead 247 113 (.pointer (some a)) "loop.example/s02098/impl.write").run Try.prog w = .ok (some false) w := by kernel_rfl
theorem ahead_branch_valid (a : Addr) (w : World) : (nilAhead 247 116 (.pointer (some a)) "loop.example/s02098/impl.valid").run Try.prog w = .ok (some false) w := by kernel_rfl
theorem ahead_branch_count (a : Addr) (w : World) : (nilAhead 247 116 (.pointer (some a)) "loop.example/s02098/impl.count").run Try.prog w = .ok (some false) w := by kernel_rfl
theorem ahead_branch_write (a : Addr) (w : World) : (nilAhead 247 116 (.pointer (some a)) "loop.example/s02098/impl.write").run Try.prog w = .ok (some false) w := by kernel_rfl
theorem ahead_leaf_valid (a : Addr) (w : World) : (nilAhead 247 119 (.pointer (some a)) "loop.example/s02098/impl.valid").run Try.prog w = .ok (some false) w := by kernel_rfl
theorem ahead_leaf_count (a : Addr) (w : World) : (nilAhead 247 119 (.pointer (some a)) "loop.example/s02098/impl.count").run Try.prog w = .ok (some false) w := by kernel_rfl
theorem ahead_leaf_write (a : Addr) (w : World) : (nilAhead 247 119 (.pointer (some a)) "loop.example/s02098/impl.write").run Try.prog w = .ok (some false) w := by kernel_rfl
theorem ahead_over_valid (a : Addr) (w : World) : (nilAhead 247 122 (.pointer (some a)) "loop.example/s02098/impl.valid").run Try.prog w = .ok (some false) w := by kernel_rfl
theorem ahead_over_count (a : Addr) (w : World) : (nilAhead 247 122 (.pointer (some a)) "loop.example/s02098/impl.count").run Try.prog w = .ok (some false) w := by kernel_rfl
theorem ahead_over_write (a : Addr) (w : World) : (nilAhead 247 122 (.pointer (some a)) "loop.example/s02098/impl.write").run Try.prog w = .ok (some false) w := by kernel_rfl
end New
end Go.Proofs.Ytmahgakigdcjmaa
namespace Go.Proofs.Ytmahgakigdcjmaa
open Go.RowKit
set_option linter.unusedVariables false
set_option maxRecDepth 100000

theorem own_lowerD {w : World} {b b' e size : Nat} {v : Value} {n : Nat} {xs : List Value} (h : w.ownsRow b e size v n xs) (hb : b' ≤ b) : w.ownsRow b' e size v n xs := by
  refine ⟨h.1, ?_⟩
  rcases h.2 with hn | ⟨g, cap, cur, e1, e2, e3⟩
  · exact .inl hn
  · exact .inr ⟨g, cap, cur, e1, Nat.le_trans hb e2, e3⟩

theorem grown_weakD {w w' : World} {row : Option Nat} (h : w.grownBy w' none) : w.grownBy w' row :=
  ⟨h.os, h.tape, h.output, h.size, fun k hk _ => h.block k hk (by simp)⟩

/-- 'append' to a slice of one's own, and where the answer lies: where it lay, or in a new block. -/
theorem run_append_ownD {P : Program} (w : World) (base : Nat) (t ty e : TypeId) (i : TypeInfo) (z : Value) (size bytes : Nat) (ht : P.underlying t = some (.slice e)) (hi : P.info? e = some i) (hz : i.zero = some z)
    (hsize : i.size = size) (hby : i.bytes = bytes) (hzs : z.cells.size = size) (hsz : 0 < size)
    (v : Value) (n : Nat) (xs : List Value) (hown : w.ownsRow base e size v n xs)
    (a : Addr) (m c : Nat) (news : List Value) (hl : news.length = m * size) (hnews : ∀ j u, news[j]? = some u → w.cell? (a.add j) = some u) (h1 : ∀ u ∈ news, u.oneCell' = true)
    (h63 : n + m ≤ maxLen) (hbytes : (n + m) * bytes ≤ 140737488355328) (hbase : base ≤ w.heap.size) :
    ∃ v' w', (Builtin.append_ #[t, t] ty #[v, .slice (some a) m c]).run P w = .ok v' w' ∧ w'.ownsRow base e size v' (n + m) (xs ++ news) ∧ w.grownBy w' v.ownBlock ∧
      (v'.ownBlock = v.ownBlock ∨ ∀ g, v'.ownBlock = some g → w.heap.size ≤ g) := by
  rcases hown.2 with ⟨rfl, rfl⟩ | ⟨g, cap, cur, rfl, hbg, hg, hnc, hcm, hcs, htake⟩
  · have hx : xs = [] := List.eq_nil_of_length_eq_zero (by simpa using hown.1)
    subst hx
    obtain ⟨v', w', hr, ho, hgr, _⟩ := run_append_own (P := P) w w.heap.size t ty e i z size bytes ht hi hz hsize hby hzs hsz _ 0 [] (World.ownsRow_nil w _ e size) a m c news hl hnews h1 h63 hbytes (Nat.le_refl _)
    exact ⟨v', w', hr, own_lowerD ho hbase, hgr, .inr fun k hk => (ho.lt k hk).1⟩
  · by_cases hroom : n + m ≤ cap
    · obtain ⟨v', w', hr, ho, hgr, _⟩ := run_append_own (P := P) w base t ty e i z size bytes ht hi hz hsize hby hzs hsz _ n xs hown a m c news hl hnews h1 h63 hbytes hbase
      subst hsize
      have hfit : n * i.size + news.length ≤ cur.size := by rw [hl, hcs, ← Nat.add_mul]; exact Nat.mul_le_mul_right _ hroom
      have hr2 := run_append_room (P := P) w t ty e i ht hi g n cap cur hg a m c news hl hnews h1 hroom hfit
      rw [hr] at hr2
      injection hr2 with e1 e2
      exact ⟨v', w', hr, ho, hgr, .inl (by rw [e1]; rfl)⟩
    · have holds : ∀ j u, xs[j]? = some u → w.cell? ((⟨g, 0, none⟩ : Addr).add j) = some u := hown.cells (g := g) rfl
      obtain ⟨v', w', hr, ho, hgr⟩ := run_append_arg_grows (P := P) w t ty e i z size bytes ht hi hz hsize hby hzs hsz ⟨g, 0, none⟩ n cap xs hown.1 holds a m c news hl hnews (by omega) h63 hbytes
      exact ⟨v', w', hr, own_lowerD ho hbase, grown_weakD hgr, .inr fun k hk => (ho.lt k hk).1⟩

theorem wpList_append_ownD {P : Program} (w : World) {ops : Array Oper} {rest : List Oper} {o : Oper} {a : Act} {Q : Exit → Act → World → Prop} (hgd : o.guard = none) (s x : Operand) (t : TypeId)
    (ho : o.op = .call { callee := .builtin .append, args := #[s, x], argTypes := #[t, t] })
    (base : Nat) (e : TypeId) (i : TypeInfo) (z : Value) (size bytes : Nat) (ht : P.underlying t = some (.slice e)) (hi : P.info? e = some i) (hz : i.zero = some z)
    (hsize : i.size = size) (hby : i.bytes = bytes) (hzs : z.cells.size = size) (hsz : 0 < size)
    (v : Value) (n : Nat) (xs : List Value) (hs : a.eval s = v) (hown : w.ownsRow base e size v n xs)
    (ad : Addr) (m c : Nat) (news : List Value) (hx : a.eval x = .slice (some ad) m c) (hl : news.length = m * size) (hnews : ∀ j u, news[j]? = some u → w.cell? (ad.add j) = some u) (h1 : ∀ u ∈ news, u.oneCell' = true)
    (h63 : n + m ≤ maxLen) (hbytes : (n + m) * bytes ≤ 140737488355328) (hbase : base ≤ w.heap.size)
    (h : ∀ v' w', w'.ownsRow base e size v' (n + m) (xs ++ news) → w.grownBy w' v.ownBlock → (v'.ownBlock = v.ownBlock ∨ ∀ g, v'.ownBlock = some g → w.heap.size ≤ g) → wpList P ops Q rest (a.put o.dst v') w') : wpList P ops Q (o :: rest) a w := by
  refine wpList_plain hgd fun _ hK => ?_
  obtain ⟨v', w', hr, h2, h3, h4⟩ := run_append_ownD (P := P) w base t o.type e i z size bytes ht hi hz hsize hby hzs hsz v n xs hown ad m c news hl hnews h1 h63 hbytes hbase
  unfold Oper.wp execOp
  simp only [ho, resolve, invoke, builtin, Sem.run_bind, Sem.run_pure, Result.andThen_ok, List.map_toArray, List.map_cons, List.map_nil, hs, hx, hr]
  exact hK _ _ (h v' w' h2 h3 h4)

end Go.Proofs.Ytmahgakigdcjmaa
namespace Go.Proofs.Ytmahgakigdcjmaa
open Go.RowKit
set_option linter.unusedVariables false
set_option maxRecDepth 100000

/-- append to a slice of one's own, as one step of a region that draws, and where the answer lies. -/
theorem step_append_ownD {P : Program} {ops : Array Oper} {o : Oper} {a : Act} {w : World} {K : Act → World → Prop} {Q : Exit → Act → World → Prop} {E : Prop}
    (hgd : o.guard = none) (s x : Operand) (t : TypeId) (ho : o.op = .call { callee := .builtin .append, args := #[s, x], argTypes := #[t, t] })
    (base : Nat) (e : TypeId) (i : TypeInfo) (z : Value) (size bytes : Nat) (ht : P.underlying t = some (.slice e)) (hi : P.info? e = some i) (hz : i.zero = some z)
    (hsize : i.size = size) (hby : i.bytes = bytes) (hzs : z.cells.size = size) (hsz : 0 < size)
    (v : Value) (n : Nat) (xs : List Value) (hs : a.eval s = v) (hown : w.ownsRow base e size v n xs)
    (ad : Addr) (m c : Nat) (news : List Value) (hx : a.eval x = .slice (some ad) m c) (hl : news.length = m * size) (hnews : ∀ j u, news[j]? = some u → w.cell? (ad.add j) = some u) (h1 : ∀ u ∈ news, u.oneCell' = true)
    (h63 : n + m ≤ maxLen) (hbytes : (n + m) * bytes ≤ 140737488355328) (hbase : base ≤ w.heap.size)
    (h : ∀ v' w', w'.ownsRow base e size v' (n + m) (xs ++ news) → w.grownBy w' v.ownBlock → (v'.ownBlock = v.ownBlock ∨ ∀ g, v'.ownBlock = some g → w.heap.size ≤ g) → K (a.put o.dst v') w') :
    if Region.wanted o (yielded ops a.tmps) = true then Oper.wp P o a w K Q else E := by
  rw [if_pos (by simp [Region.wanted, hgd])]
  obtain ⟨v', w', hr, h2, h3, h4⟩ := run_append_ownD (P := P) w base t o.type e i z size bytes ht hi hz hsize hby hzs hsz v n xs hown ad m c news hl hnews h1 h63 hbytes hbase
  unfold Oper.wp execOp
  simp only [ho, resolve, invoke, builtin, Sem.run_bind, Sem.run_pure, Result.andThen_ok, List.map_toArray, List.map_cons, List.map_nil, hs, hx, hr]
  exact h v' w' h2 h3 h4
end Go.Proofs.Ytmahgakigdcjmaa
namespace Go.Proofs.Ytmahgakigdcjmaa
open Go.RowKit
set_option linter.unusedVariables false
set_option maxRecDepth 100000

theorem own_lowerC {w : World} {b b' e size : Nat} {v : Value} {n : Nat} {xs : List Value} (h : w.ownsRow b e size v n xs) (hb : b' ≤ b) : w.ownsRow b' e size v n xs := own_lowerD h hb
theorem box_fiveC {w : World} {N : Nat} {v0 v1 v2 v3 v4 : Value} {t : TypeId} (h : w.heap[N]? = some (.cells #[v0, v1, v2, v3, v4] t)) : w.cell? ⟨N, 0, none⟩ = some v0 ∧ w.cell? ⟨N, 1, none⟩ = some v1 ∧ w.cell? ⟨N, 2, none⟩ = some v2 ∧ w.cell? ⟨N, 3, none⟩ = some v3 ∧ w.cell? ⟨N, 4, none⟩ = some v4 := by
  refine ⟨?_, ?_, ?_, ?_, ?_⟩ <;> simp [World.cell?, h]
theorem box_threeC {w : World} {N : Nat} {v0 v1 v2 : Value} {t : TypeId} (h : w.heap[N]? = some (.cells #[v0, v1, v2] t)) : w.cell? ⟨N, 0, none⟩ = some v0 ∧ w.cell? ⟨N, 1, none⟩ = some v1 ∧ w.cell? ⟨N, 2, none⟩ = some v2 := by
  refine ⟨?_, ?_, ?_⟩ <;> simp [World.cell?, h]
theorem box_thawC {w : World} {M t : Nat} {cs : Array Value} (h : w.heap[M]? = some (.cells cs t)) (j : Nat) : w.frozen? ⟨M, j, none⟩ = false := by simp [World.frozen?, h]
def put5C (w : World) (N : Nat) (u0 u1 u2 u3 u4 : Value) : World := ((((w.setCell ⟨N, 0, none⟩ u0).setCell ⟨N, 1, none⟩ u1).setCell ⟨N, 2, none⟩ u2).setCell ⟨N, 3, none⟩ u3).setCell ⟨N, 4, none⟩ u4
theorem put5C_box {w : World} {N t : Nat} {v0 v1 v2 v3 v4 : Value} (h : w.heap[N]? = some (.cells #[v0, v1, v2, v3, v4] t)) (u0 u1 u2 u3 u4 : Value) : (put5C w N u0 u1 u2 u3 u4).heap[N]? = some (.cells #[u0, u1, u2, u3, u4] t) := by
  simp [put5C, World.setCell, Array.getElem?_modify, h]
theorem put5C_fr (w : World) (N : Nat) (u0 u1 u2 u3 u4 : Value) : Fr (fun x => x = N) w (put5C w N u0 u1 u2 u3 u4) :=
  ((((fr_setCell _ _ _ _).trans (fr_setCell _ _ _ _)).trans (fr_setCell _ _ _ _)).trans (fr_setCell _ _ _ _)).trans (fr_setCell _ _ _ _)
end Go.Proofs.Ytmahgakigdcjmaa
namespace Go.Proofs.Ytmahgakigdcjmaa
open Go.RowKit
set_option linter.unusedVariables false
set_option maxRecDepth 100000

end Go.Proofs.Ytmahgakigdcjmaa
namespace Go.Proofs.Ytmahgakigdcjmaa
open Go.RowKit
set_option linter.unusedVariables false
set_option maxRecDepth 100000

end Go.Proofs.Ytmahgakigdcjmaa
namespace Go.Proofs.Ytmahgakigdcjmaa
open Go.RowKit
set_option linter.unusedVariables false
set_option maxRecDepth 100000

theorem box_sixR {w : World} {N : Nat} {v0 v1 v2 v3 v4 v5 : Value} {t : TypeId} (h : w.heap[N]? = some (.cells #[v0, v1, v2, v3, v4, v5] t)) : w.cell? ⟨N, 0, none⟩ = some v0 ∧ w.cell? ⟨N, 1, none⟩ = some v1 ∧ w.cell? ⟨N, 2, none⟩ = some v2 ∧ w.cell? ⟨N, 3, none⟩ = some v3 ∧ w.cell? ⟨N, 4, none⟩ = some v4 ∧ w.cell? ⟨N, 5, none⟩ = some v5 := by
  refine ⟨?_, ?_, ?_, ?_, ?_, ?_⟩ <;> simp [World.cell?, h]
end Go.Proofs.Ytmahgakigdcjmaa
namespace Go.Proofs.Ytmahgakigdcjmaa
open Go.RowKit
set_option linter.unusedVariables false
set_option maxRecDepth 100000

/-- Zeros up to a length. -/
def extZ (l : List Int) (z : Nat) : List Int := l ++ List.replicate z 0
theorem extZ_snoc (l : List Int) (z : Nat) : extZ l (z + 1) = extZ l z ++ [0] := by simp [extZ, List.replicate_succ']
theorem extZ_len (l : List Int) (z : Nat) : (extZ l z).length = l.length + z := by simp [extZ]
/-- The first k bytes of a write. -/
def overTo (l : List Int) (off : Nat) (bs : List Int) : Nat → List Int
  | 0 => l
  | k + 1 => (overTo l off bs k).set (off + k) (bs.getD k 0)
theorem overTo_len (l : List Int) (off : Nat) (bs : List Int) (k : Nat) : (overTo l off bs k).length = l.length := by
  induction k with
  | zero => rfl
  | succ k ih => simp [overTo, ih]
theorem overTo_byte (l : List Int) (off : Nat) (bs : List Int) (k : Nat) (hl : ∀ x ∈ l, 0 ≤ x ∧ x ≤ 255) (hb : ∀ x ∈ bs, 0 ≤ x ∧ x ≤ 255) : ∀ x ∈ overTo l off bs k, 0 ≤ x ∧ x ≤ 255 := by
  induction k with
  | zero => exact hl
  | succ k ih =>
    intro x hx
    rcases List.mem_or_eq_of_mem_set hx with h | h
    · exact ih x h
    · subst h
      by_cases hk : k < bs.length
      · refine hb _ ?_
        simp [List.getD, List.getElem?_eq_getElem hk]
      · simp [List.getD, List.getElem?_eq_none (Nat.le_of_not_lt hk)]
theorem extZ_byte (l : List Int) (z : Nat) (hl : ∀ x ∈ l, 0 ≤ x ∧ x ≤ 255) : ∀ x ∈ extZ l z, 0 ≤ x ∧ x ≤ 255 := by
  intro x hx
  simp [extZ] at hx
  rcases hx with h | ⟨_, h⟩
  · exact hl x h
  · subst h; simp
/-- A file's bytes behind a write of bs to page pg. -/
def doData (l : List Int) (pg : Nat) (bs : List Int) : List Int := overTo (extZ l ((pg + 1) * 128 - l.length)) (pg * 128) bs bs.length
def insN (fs : List PF) (nm : ByteArray) : Nat := fs.findIdx (fun f => gtB f.1 nm)
def withName (fs : List PF) (nm : ByteArray) : List PF := if findN fs nm < fs.length then fs else fs.take (insN fs nm) ++ (nm, []) :: fs.drop (insN fs nm)
def doP (fs : List PF) (nm : ByteArray) (pg : Nat) (bs : List Int) : List PF :=
  (withName fs nm).set (findN (withName fs nm) nm) (nm, doData ((withName fs nm).getD (findN (withName fs nm) nm) (ByteArray.empty, [])).2 pg bs)
theorem insPos_eq {fs : List PF} {nm : ByteArray} {p : Nat} (h : insPos fs.length (fun i => (fs.getD i (ByteArray.empty, [])).1) nm p) : p = insN fs nm := by
  obtain ⟨h1, h2, h3⟩ := h
  unfold insN
  by_cases hp : p < fs.length
  · symm
    rw [List.findIdx_eq hp]
    refine ⟨by simpa [List.getD, List.getElem?_eq_getElem hp] using h3 hp, fun j hj => ?_⟩
    simpa [List.getD, List.getElem?_eq_getElem (show j < fs.length by omega)] using h2 j hj
  · obtain rfl : p = fs.length := by omega
    symm
    rw [List.findIdx_eq_length]
    intro x hx
    obtain ⟨j, hj, rfl⟩ := List.getElem_of_mem hx
    simpa [List.getD, List.getElem?_eq_getElem hj] using h2 j hj
theorem findN_name {fs : List PF} {nm : ByteArray} (h : findN fs nm < fs.length) : (fs.getD (findN fs nm) (ByteArray.empty, [])).1 = nm := by
  unfold findN at h ⊢
  have h2 := List.findIdx_getElem (w := h)
  simpa [List.getD, List.getElem?_eq_getElem h] using h2
theorem findN_with (fs : List PF) (nm : ByteArray) : findN (withName fs nm) nm < (withName fs nm).length := by
  unfold withName
  split
  · assumption
  · unfold findN
    rw [List.findIdx_lt_length]
    exact ⟨(nm, []), by simp, by simp⟩
def lenV : Value → Nat | .slice _ n _ => n | _ => 0
theorem own_shape2 {w : World} {base e size : Nat} {v : Value} {n : Nat} {xs : List Value} (h : w.ownsRow base e size v n xs) : ∃ a n' c, v = .slice a n' c ∧ n' = n := by
  obtain ⟨a, c, e⟩ := own_shape h
  exact ⟨a, n, c, e, rfl⟩
end Go.Proofs.Ytmahgakigdcjmaa
namespace Go.Proofs.Ytmahgakigdcjmaa
open Go.RowKit
set_option linter.unusedVariables false
set_option maxRecDepth 100000

theorem totalI_small {fs : List PF} {K : Nat} (h : ∀ j, j < fs.length → (fs.getD j (ByteArray.empty, [])).2.length ≤ K) : totalI fs ≤ fs.length * K := by
  induction fs with
  | nil => simp [totalI]
  | cons x r ih =>
    have h0 := h 0 (by simp)
    have h1 := ih (fun j hj => by have := h (j + 1) (by simpa using hj); simpa using this)
    simp at h0
    simp only [totalI, List.length_cons]
    have : ((r.length + 1 : Nat) : Int) * (K : Int) = (r.length : Int) * K + K := by
      rw [Int.natCast_add, Int.add_mul]; simp
    rw [this]
    omega
theorem total_get {fs : List PF} {j : Nat} (hj : j < fs.length) : ((fs.getD j (ByteArray.empty, [])).2.length : Int) / 128 ≤ totalI fs := by
  induction fs generalizing j with
  | nil => simp at hj
  | cons x r ih =>
    cases j with
    | zero => have := (totalI_bd r).1; simp [totalI]; omega
    | succ j =>
      have := ih (j := j) (by simpa using hj)
      simp only [totalI, List.getD_cons_succ]
      omega
theorem lenI_le_total (fs : List PF) (nm : ByteArray) : 0 ≤ lenI fs nm ∧ lenI fs nm ≤ totalI fs := by
  unfold lenI
  split
  · rename_i h
    exact ⟨by omega, total_get h⟩
  · exact ⟨by omega, (totalI_bd fs).1⟩
theorem doData_len (l : List Int) (pg : Nat) (bs : List Int) : (doData l pg bs).length = max l.length ((pg + 1) * 128) := by
  unfold doData
  rw [overTo_len, extZ_len]
  omega
theorem withName_len (fs : List PF) (nm : ByteArray) : (withName fs nm).length = if findN fs nm < fs.length then fs.length else fs.length + 1 := by
  unfold withName
  split
  · rfl
  · have : insN fs nm ≤ fs.length := List.findIdx_le_length
    simp; omega
theorem doP_len (fs : List PF) (nm : ByteArray) (pg : Nat) (bs : List Int) : (doP fs nm pg bs).length = if findN fs nm < fs.length then fs.length else fs.length + 1 := by
  unfold doP
  rw [List.length_set, withName_len]
theorem doP_all {fs : List PF} {nm : ByteArray} {pg : Nat} {bs : List Int} {K : Nat} (h : ∀ j, j < fs.length → (fs.getD j (ByteArray.empty, [])).2.length ≤ K) (hp : (pg + 1) * 128 ≤ K) : ∀ j, j < (doP fs nm pg bs).length → ((doP fs nm pg bs).getD j (ByteArray.empty, [])).2.length ≤ K := by
  have hw : ∀ j, j < (withName fs nm).length → ((withName fs nm).getD j (ByteArray.empty, [])).2.length ≤ K := by
    unfold withName
    split
    · exact h
    · intro j hj
      have hi : insN fs nm ≤ fs.length := List.findIdx_le_length
      rw [getD_ins _ _ _ _ _ hi]
      simp at hj
      split
      · exact h j (by omega)
      · split
        · simp
        · exact h (j - 1) (by omega)
  have hf := findN_with fs nm
  intro j hj
  unfold doP at hj ⊢
  rw [List.length_set] at hj
  rw [getD_set _ _ _ _ _ hf]
  split
  · show (doData _ pg bs).length ≤ K
    rw [doData_len]
    have := hw _ hf
    omega
  · exact hw j hj
theorem small_of_total {fs : List PF} (h : totalI fs ≤ 1000) : ∀ j, j < fs.length → (fs.getD j (ByteArray.empty, [])).2.length ≤ 128128 := by
  intro j hj
  have := total_get hj
  omega
end Go.Proofs.Ytmahgakigdcjmaa
namespace Go.Proofs.Ytmahgakigdcjmaa
open Go.RowKit
set_option linter.unusedVariables false
set_option maxRecDepth 100000

def pendOk (fs : List PF) (p : PP) : Bool := nameB p.1 && (p.2.2.length == 128) && decide (0 ≤ p.2.1 ∧ p.2.1 ≤ lenI fs p.1)
def stepP (fs : List PF) (p : PP) : List PF := doP fs p.1 p.2.1.toNat p.2.2
def fitsB (cp : Int) (fs : List PF) : Bool := decide (fs.length ≤ 12) && decide (totalI fs ≤ cp)
def cacheS (cp : Int) : List PP → List PF → Bool
  | [], _ => true
  | p :: r, fs => pendOk fs p && (fitsB cp (stepP fs p) && cacheS cp r (stepP fs p))
def headB (n m : Nat) (cp fu : Int) : Bool := decide (n ≤ 12) && decide (0 ≤ cp ∧ cp ≤ 1000) && decide (m ≤ 1000) && decide (-1 ≤ fu ∧ fu ≤ 1000000)
def specV (fs : List PF) (ps : List PP) (cp fu : Int) : Bool := headB fs.length ps.length cp fu && filesOk fs && decide (totalI fs ≤ cp) && cacheS cp ps fs
theorem specV_head {fs : List PF} {ps : List PP} {cp fu : Int} (h : headB fs.length ps.length cp fu = false) : specV fs ps cp fu = false := by simp [specV, h]

theorem box_cells {wr : World} {N : Nat} {v0 v1 v2 v3 v4 : Value} {t : TypeId} (h : wr.heap[N]? = some (.cells #[v0, v1, v2, v3, v4] t)) : wr.cell? ⟨N, 0, none⟩ = some v0 ∧ wr.cell? ⟨N, 1, none⟩ = some v1 ∧ wr.cell? ⟨N, 2, none⟩ = some v2 := by
  refine ⟨?_, ?_, ?_⟩
  · rw [cell_of_row wr N 0 _ _ _ h]; rfl
  · rw [cell_of_row wr N 1 _ _ _ h]; rfl
  · rw [cell_of_row wr N 2 _ _ _ h]; rfl

theorem below_dn {S : Nat} {w wr : World} {o : Obj} {q : Nat} (h : Below S w wr) (hS : S ≤ wr.heap.size) : Below S w ((wr.alloc o).drewN q) :=
  (h.alloc hS o).trans ⟨rfl, rfl, rfl, Nat.le_refl _, fun _ _ => rfl⟩

theorem fileOk_eq {fs : List PF} {i : Nat} {f : PF} (h : f = fs.getD i (ByteArray.empty, [])) : fileOk fs i = (nameB f.1 && !(f.2.length == 0) && (f.2.length % 128 == 0) && !(decide (0 < i) && geB (fs.getD (i - 1) (ByteArray.empty, [])).1 f.1)) := by rw [h]; rfl

end Go.Proofs.Ytmahgakigdcjmaa
namespace Go.Proofs.Ytmahgakigdcjmaa
open Go.RowKit
set_option linter.unusedVariables false
set_option maxRecDepth 100000

def put6R (w : World) (N : Nat) (u0 u1 u2 u3 u4 u5 : Value) : World := (((((w.setCell ⟨N, 0, none⟩ u0).setCell ⟨N, 1, none⟩ u1).setCell ⟨N, 2, none⟩ u2).setCell ⟨N, 3, none⟩ u3).setCell ⟨N, 4, none⟩ u4).setCell ⟨N, 5, none⟩ u5
theorem put6R_box {w : World} {N t : Nat} {v0 v1 v2 v3 v4 v5 : Value} (h : w.heap[N]? = some (.cells #[v0, v1, v2, v3, v4, v5] t)) (u0 u1 u2 u3 u4 u5 : Value) : (put6R w N u0 u1 u2 u3 u4 u5).heap[N]? = some (.cells #[u0, u1, u2, u3, u4, u5] t) := by
  simp [put6R, World.setCell, Array.getElem?_modify, h]
theorem put6R_fr (w : World) (N : Nat) (u0 u1 u2 u3 u4 u5 : Value) : Fr (fun x => x = N) w (put6R w N u0 u1 u2 u3 u4 u5) :=
  (((((fr_setCell _ _ _ _).trans (fr_setCell _ _ _ _)).trans (fr_setCell _ _ _ _)).trans (fr_setCell _ _ _ _)).trans (fr_setCell _ _ _ _)).trans (fr_setCell _ _ _ _)
/-- What a step spends: its word, the fuel, whether the disk is dead. -/
def spE (fu : Int) : Int := if fu = 0 then 3 else 0
def spF (fu : Int) : Int := if 0 < fu then fu - 1 else fu
def spD (fu : Int) (de : Bool) : Bool := if fu = 0 then true else de
end Go.Proofs.Ytmahgakigdcjmaa
namespace Go.Proofs.Ytmahgakigdcjmaa
open Go.RowKit
set_option linter.unusedVariables false
set_option maxRecDepth 100000

theorem owns_setD {w : World} {base e size : Nat} {v : Value} {n : Nat} {xs : List Value} (h : w.ownsRow base e size v n xs) {p : Addr} (hp : ∀ g, v.ownBlock = some g → p.block ≠ g) (u : Value) : (w.setCell p u).ownsRow base e size v n xs := by
  refine ⟨h.1, ?_⟩
  rcases h.2 with hn | ⟨g, cap, cur, rfl, hbg, hgg, rest⟩
  · exact .inl hn
  · exact .inr ⟨g, cap, cur, rfl, hbg, (Below.heap_setCell w p u g (fun e => hp g rfl e.symm)).trans hgg, rest⟩
theorem toByteS_ownB (a : Option Addr) (n c : Nat) (bs : List Int) (w : World) (A B : Nat) (hB : B ≤ w.heap.size) (h : BytesAt w A B a n c bs) (hn : n ≤ 1048576) :
    Calls Try.prog 5 #[.slice a n c] w fun e w' => ∃ g xs, w.heap.size ≤ g ∧ e = .returned (.slice (some ⟨g, 0, none⟩) n n) ∧ w'.ownsRow w.heap.size 5 1 (.slice (some ⟨g, 0, none⟩) n n) n xs ∧ BytesAt w' w.heap.size w'.heap.size (some ⟨g, 0, none⟩) n n bs ∧ Below w.heap.size w w' := by
  obtain ⟨hl, hnc, hc, hw, hcell, _⟩ := h
  obtain ⟨i0, hi, hz0, hz1, hz2⟩ := info_parts info_u8
  go_enter Try.func5, Try.ntmps5
  go_wp2_with (at_make; refine wpList_make_full _ rfl _ _ 22 rfl w.heap.size 5 i0 (.int .u8 0) 1 Try.underlying22 hi hz0 hz1 .i64 .i64 n n n rfl rfl rfl rfl (by rw [hz2]; omega) (by unfold maxLen; omega) (Nat.le_refl _) ?_; intro w1 hown hgr)
  have hb1 : Below w.heap.size w w1 := (Below.refl _ _).grown hgr (Nat.le_refl _) (by simp)
  go_loopw [4] (fun i wr => ∃ k : Nat, k ≤ n ∧ i = .int .i64 k ∧ Below w.heap.size w wr ∧ ∃ xs, wr.ownsRow w.heap.size 5 1 (.slice (some ⟨w.heap.size, 0, none⟩) n n) n xs ∧ ∀ j, j < k → xs[j]? = some (.int .u8 (bs.getD j 0))) (fun i _ => n - (intOf i).toNat)
  case atStart => exact ⟨0, Nat.zero_le _, rfl, hb1, _, hown, fun j hj => absurd hj (Nat.not_lt_zero _)⟩
  case round =>
    clear hown hgr hb1
    obtain ⟨k, hk, rfl, hbel, xs, hown, hxs⟩ := hrel
    have HX : Hid (∀ j, j < k → xs[j]? = some (.int .u8 (bs.getD j 0))) := hxs
    clear hxs
    by_cases hlt : k < n
    · obtain ⟨b, off, rfl, hb, hcb⟩ := hcell (by omega)
      have e1 := (hbel.cell (p := ⟨b, off + k, none⟩) (by show b < _; omega)).trans (hcb k hlt)
      clear hcell hcb
      have hf := hown.frozenAt k
      have hxl := hown.1
      obtain ⟨u, hu⟩ : ∃ u, wr.cell? ⟨w.heap.size, k, none⟩ = some u := ⟨xs[k]'(by omega), by rw [hown.cellAt k (by omega)]; exact List.getElem?_eq_getElem _⟩
      have R := hown.stored k (.int .u8 (bs.getD k 0))
      have HR : Hid (∀ j, j < k + 1 → (xs.set k (.int .u8 (bs.getD k 0)))[j]? = some (.int .u8 (bs.getD j 0))) := by
        intro j hj
        by_cases hjk : j = k
        · subst hjk; rw [List.getElem?_set_self (by omega)]
        · rw [List.getElem?_set_ne (by omega)]; exact HX.out j (by omega)
      have hb2 := hbel.setCell (p := ⟨w.heap.size, k, none⟩) (Nat.le_refl _) (.int .u8 (bs.getD k 0))
      generalize bs.getD k 0 = x at e1 R HR hb2
      clear hown
      obtain ⟨R1, R2⟩ := R
      go_wp2
      go_roundw
      case rel => exact ⟨k + 1, by omega, by go_num, hb2, _, R1, HR.out⟩
      case measure => simp [intOf]; omega
    · go_wp2
      go_ret
      exact ⟨w.heap.size, _, Nat.le_refl _, rfl, hown, bytes_of_owns hown hl (fun j hj => HX.out j (by omega)) hw, hbel⟩
theorem toByteS_ownC (a : Option Addr) (n c : Nat) (bs : List Int) (w : World) (A B : Nat) (hB : B ≤ w.heap.size) (h : BytesAt w A B a n c bs) (hn : n ≤ 1048576) :
    Calls Try.prog 5 #[.slice a n c] w fun e w' => ∃ g, e = .returned (.slice (some ⟨g, 0, none⟩) n n) ∧ w'.ownsRow w.heap.size 5 1 (.slice (some ⟨g, 0, none⟩) n n) n (u8s bs) ∧ Below w.heap.size w w' := by
  refine (toByteS_ownB a n c bs w A B hB h hn).mono ?_
  rintro e w' ⟨g, xs, hg, rfl, hO, hby, hb⟩
  refine ⟨g, rfl, ?_, hb⟩
  have hl := h.1
  have e : xs = u8s bs := by
    have hxl := hO.1
    apply List.ext_getElem?
    intro i
    by_cases hi : i < n
    · obtain ⟨b, off, e1, _, hc⟩ := hby.2.2.2.2.1 (by omega)
      cases e1
      have h1 := hc i hi
      rw [Nat.zero_add, hO.cellAt i (by omega)] at h1
      rw [h1]
      simp [u8s, List.getD, show i < bs.length by omega]
    · rw [List.getElem?_eq_none (by omega), List.getElem?_eq_none (by simp [u8s]; omega)]
  rw [← e]
  exact hO
end Go.Proofs.Ytmahgakigdcjmaa
namespace Go.Proofs.Ytmahgakigdcjmaa
open Go.RowKit
set_option linter.unusedVariables false
set_option maxRecDepth 100000

end Go.Proofs.Ytmahgakigdcjmaa
namespace Go.Proofs.Ytmahgakigdcjmaa
open Go.RowKit
set_option linter.unusedVariables false
set_option maxRecDepth 100000

theorem box_below {w w' : World} {N : Nat} {x : Obj} (h : w.heap[N]? = some x) (hb : Below w.heap.size w w') : w'.heap[N]? = some x := (hb.block N (Array.getElem?_eq_some_iff.1 h).1).trans h
theorem box_fr {S : Nat → Prop} {w w' : World} {N : Nat} {x : Obj} (h : w.heap[N]? = some x) (hf : Fr S w w') (hS : ¬ S N) : w'.heap[N]? = some x := (hf.block N (Array.getElem?_eq_some_iff.1 h).1 hS).trans h
theorem kF_bound (k : Nat) (fs : List PF) : (kF k fs : Int) ≤ k + fs.length + wFiles fs := by
  induction fs generalizing k with
  | nil => simp [kF, wFiles]
  | cons x r ih =>
    have := ih (k + 1 + x.2.length)
    simp only [kF, wFiles, wFile, List.length_cons]
    omega
theorem kP_bound (k : Nat) (ps : List PP) : (kP k ps : Int) ≤ k + 2 * ps.length + wPends ps := by
  induction ps generalizing k with
  | nil => simp [kP, wPends]
  | cons x r ih =>
    have := ih (k + 2 + x.2.2.length)
    simp only [kP, wPends, wPend, List.length_cons]
    omega
end Go.Proofs.Ytmahgakigdcjmaa
