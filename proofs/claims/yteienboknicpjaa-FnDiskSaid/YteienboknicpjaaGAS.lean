import Derived.Test.YteienboknicpjaaGAG
import Derived.Test.YteienboknicpjaaGAO
import Derived.Test.YteienboknicpjaaGAP
import Derived.Test.YteienboknicpjaaGAR
namespace Go.Proofs.Yteienboknicpjaa
open Go.RowKit
set_option linter.unusedVariables false
set_option maxRecDepth 100000

/-- A disk's two lists in memory of one's own, all in the blocks from lo to hi. -/
structure OwnZ (w : World) (lo hi : Nat) (v u : Value) (fs : List PF) (ps : List PP) : Prop where
  ex : ∃ xs vs ys us, OwnD w lo v u fs ps xs vs ys us ∧ ∀ g, Blk v vs g ∨ Blk u us g → g < hi
theorem OwnZ.below {w w' : World} {lo hi : Nat} {v u : Value} {fs : List PF} {ps : List PP} (h : OwnZ w lo hi v u fs ps) (hb : Below w.heap.size w w') : OwnZ w' lo hi v u fs ps := by
  obtain ⟨xs, vs, ys, us, hO, hg⟩ := h.ex
  exact ⟨xs, vs, ys, us, hO.below hb, hg⟩
theorem OwnZ.fr {S : Nat → Prop} {w w' : World} {lo hi : Nat} {v u : Value} {fs : List PF} {ps : List PP} (h : OwnZ w lo hi v u fs ps) (hf : Fr S w w') (hS : ∀ g, S g → g < lo ∨ hi ≤ g) : OwnZ w' lo hi v u fs ps := by
  obtain ⟨xs, vs, ys, us, hO, hg⟩ := h.ex
  refine ⟨xs, vs, ys, us, hO.frS hf (fun g hs hb => ?_), hg⟩
  have h1 := hg g hb
  have h2 := (hO.blk hb).1
  have := hS g hs
  omega
theorem OwnZ.files {w : World} {lo hi : Nat} {a : Option Addr} {n c : Nat} {u : Value} {fs : List PF} {ps : List PP} (h : OwnZ w lo hi (.slice a n c) u fs ps) : FilesAt w lo w.heap.size a n c fs := by
  obtain ⟨xs, vs, ys, us, hO, hg⟩ := h.ex
  obtain ⟨a', n', c', e, _, hF⟩ := hO.files.files
  cases e
  exact hF
theorem OwnZ.pends {w : World} {lo hi : Nat} {b : Option Addr} {m d : Nat} {v : Value} {fs : List PF} {ps : List PP} (h : OwnZ w lo hi v (.slice b m d) fs ps) : PendsAt w lo w.heap.size b m d ps := by
  obtain ⟨xs, vs, ys, us, hO, hg⟩ := h.ex
  obtain ⟨a', n', c', e, _, hF⟩ := hO.cache.pends
  cases e
  exact hF
theorem OwnZ.up {w : World} {lo hi hi' : Nat} {v u : Value} {fs : List PF} {ps : List PP} (h : OwnZ w lo hi v u fs ps) (hh : hi ≤ hi') : OwnZ w lo hi' v u fs ps := by
  obtain ⟨xs, vs, ys, us, hO, hg⟩ := h.ex
  exact ⟨xs, vs, ys, us, hO, fun g e => Nat.lt_of_lt_of_le (hg g e) hh⟩
theorem ResAt.z {w w' : World} {e : Ending} {er cp fu : Int} {de : Bool} {fs : List PF} {ps : List PP} (h : ResAt w e w' er fs ps cp fu de) : ∃ (a : Option Addr) (c : Nat) (b : Option Addr) (d : Nat), e = .returned (.agg #[.int .i64 er, .slice a fs.length c, .slice b ps.length d, .int .i64 cp, .int .i64 fu, .bool de]) ∧ OwnZ w' w.heap.size w'.heap.size (.slice a fs.length c) (.slice b ps.length d) fs ps ∧ Below w.heap.size w w' := by
  obtain ⟨a, c, b, d, xs, vs, ys, us, e1, hO, hb⟩ := h.out
  exact ⟨a, c, b, d, e1, ⟨xs, vs, ys, us, hO, fun g hg => (hO.blk hg).2⟩, hb⟩
theorem box_below {w w' : World} {N : Nat} {x : Obj} (h : w.heap[N]? = some x) (hb : Below w.heap.size w w') : w'.heap[N]? = some x := (hb.block N (Array.getElem?_eq_some_iff.1 h).1).trans h
theorem box_fr {S : Nat → Prop} {w w' : World} {N : Nat} {x : Obj} (h : w.heap[N]? = some x) (hf : Fr S w w') (hS : ¬ S N) : w'.heap[N]? = some x := (hf.block N (Array.getElem?_eq_some_iff.1 h).1 hS).trans h
theorem kF_bound (k : Nat) (fs : List PF) : (kF k fs : Int) ≤ k + fs.length + wFiles fs := by
  induction fs generalizing k with
  | nil => simp [kF, wFiles]
  | cons x r ih =>
    have := ih (k + 1 + x.2.length)
    simp only [kF, wFiles, wFile, List.length_cons]
    omega
theorem kP_bound (k : Nat) (ps : List PP) : (kP k ps : Int) ≤ k + 2 * ps.length + wPends ps := by
  induction ps generalizing k with
  | nil => simp [kP, wPends]
  | cons x r ih =>
    have := ih (k + 2 + x.2.2.length)
    simp only [kP, wPends, wPend, List.length_cons]
    omega
end Go.Proofs.Yteienboknicpjaa
namespace Go.Proofs.Yteienboknicpjaa
open Go.RowKit
set_option linter.unusedVariables false
set_option maxRecDepth 100000

theorem OwnZ.lo {w : World} {lo lo' hi : Nat} {v u : Value} {fs : List PF} {ps : List PP} (h : OwnZ w lo hi v u fs ps) (hl : lo' ≤ lo) : OwnZ w lo' hi v u fs ps := by
  obtain ⟨xs, vs, ys, us, hO, hg⟩ := h.ex
  exact ⟨xs, vs, ys, us, hO.lower hl, hg⟩
/-- A disk that is being drawn, in the block M; the answer's block N; the cursor C. -/
structure DSt (w wr : World) (N M C A B : Nat) (a : Option Addr) (c : Nat) (b : Option Addr) (d : Nat) (fs : List PF) (ps : List PP) (cp fu : Int) : Prop where
  hd : wr.heap[M]? = some (.cells #[.slice a fs.length c, .slice b ps.length d, .int .i64 cp, .int .i64 fu, .bool false] 26)
  rs : wr.heap[N]? = some (.cells #[.slice none 0 0, .slice none 0 0, .int .i64 0, .int .i64 0, .bool false] 26)
  own : OwnZ wr (M + 1) wr.heap.size (.slice a fs.length c) (.slice b ps.length d) fs ps
  val : implV fs ps cp (-1) = true
  cur : DCur wr C A B
  fr : Fr (fun g => g = C) w wr
  lo : w.heap.size ≤ N ∧ N < M ∧ C < w.heap.size
theorem DSt.lt {w wr : World} {N M C A B : Nat} {a : Option Addr} {c : Nat} {b : Option Addr} {d : Nat} {fs : List PF} {ps : List PP} {cp fu : Int} (h : DSt w wr N M C A B a c b d fs ps cp fu) : M < wr.heap.size := (Array.getElem?_eq_some_iff.1 h.hd).1
theorem DSt.drawn {w wr wr' : World} {N M C A B : Nat} {a : Option Addr} {c : Nat} {b : Option Addr} {d : Nat} {fs : List PF} {ps : List PP} {cp fu : Int} (h : DSt w wr N M C A B a c b d fs ps cp fu) (hf : Fr (fun g => g = C) wr wr') (hD : DCur wr' C A B) : DSt w wr' N M C A B a c b d fs ps cp fu := by
  have hl := h.lo
  exact ⟨box_fr h.hd hf (by omega), box_fr h.rs hf (by omega), (h.own.fr hf (fun g e => by omega)).up hf.size, h.val, hD, h.fr.trans hf, hl⟩
theorem DSt.below {w wr wr' : World} {N M C A B : Nat} {a : Option Addr} {c : Nat} {b : Option Addr} {d : Nat} {fs : List PF} {ps : List PP} {cp fu : Int} (h : DSt w wr N M C A B a c b d fs ps cp fu) (hb : Below wr.heap.size wr wr') : DSt w wr' N M C A B a c b d fs ps cp fu :=
  h.drawn (Fr.of_below hb) (h.cur.below hb)
theorem DSt.fuel {w wr : World} {N M C A B : Nat} {a : Option Addr} {c : Nat} {b : Option Addr} {d : Nat} {fs : List PF} {ps : List PP} {cp fu : Int} (h : DSt w wr N M C A B a c b d fs ps cp fu) (f : Int) : DSt w (wr.setCell ⟨M, 3, none⟩ (.int .i64 f)) N M C A B a c b d fs ps cp f := by
  have hl := h.lo
  have hlt := h.lt
  have hf := fr_setCell wr M 3 (.int .i64 f)
  have hx := heap_setCell_at h.hd 3 (.int .i64 f)
  refine ⟨by simpa using hx, box_fr h.rs hf (by omega), (h.own.fr hf (fun g e => by omega)).up hf.size, h.val, h.cur.belowN (hf.below (B := M) (by omega) (fun g e => by omega)) (by omega), h.fr.lateD hf (fun g e => by omega), hl⟩
/-- The whole disk anew, its lists above the block NB. -/
theorem DSt.put {w wr w3 : World} {N M C A B : Nat} {a : Option Addr} {c : Nat} {b : Option Addr} {d : Nat} {fs : List PF} {ps : List PP} {cp fu : Int} {a' : Option Addr} {c' : Nat} {b' : Option Addr} {d' : Nat} {fs' : List PF} {ps' : List PP} {fu' : Int} (h : DSt w wr N M C A B a c b d fs ps cp fu) (hb : Below wr.heap.size wr w3) (hO : OwnZ w3 wr.heap.size w3.heap.size (.slice a' fs'.length c') (.slice b' ps'.length d') fs' ps') (hv : implV fs' ps' cp (-1) = true) :
    DSt w (put5C w3 M (.slice a' fs'.length c') (.slice b' ps'.length d') (.int .i64 cp) (.int .i64 fu') (.bool false)) N M C A B a' c' b' d' fs' ps' cp fu' := by
  have h3 := h.below hb
  have hl := h.lo
  have hlt := h.lt
  have hlt3 := h3.lt
  have hf := put5C_fr w3 M (.slice a' fs'.length c') (.slice b' ps'.length d') (.int .i64 cp) (.int .i64 fu') (.bool false)
  exact ⟨put5C_box h3.hd _ _ _ _ _, box_fr h3.rs hf (by omega), ((hO.lo (by omega)).fr hf (fun g e => by omega)).up hf.size, hv, h3.cur.belowN (hf.below (B := M) (by omega) (fun g e => by omega)) (by omega), h3.fr.lateD hf (fun g e => by omega), hl⟩
theorem run_fieldDisk (v0 v1 v2 v3 v4 v5 : Value) (w : World) : (Instr.field 30 (.agg #[v0, v1, v2, v3, v4, v5]) 1).run Try.prog w = .ok (.agg #[v1, v2, v3, v4, v5]) w := by
  simp [Instr.field, asAgg, go_sem]
theorem val_bounds {fs : List PF} {ps : List PP} {cp : Int} (h : implV fs ps cp (-1) = true) : fs.length ≤ 12 ∧ cp ≤ 1000 ∧ totalI fs ≤ cp ∧ cacheS cp ps fs = true ∧ ps.length ≤ 1000 ∧ (∀ j, j < fs.length → (fs.getD j (ByteArray.empty, [])).2.length ≤ 1048576) ∧ (∀ j, j < ps.length → (ps.getD j (ByteArray.empty, 0, [])).2.2.length ≤ 1048576) := by
  obtain ⟨q1, q2, q3, q4, q5⟩ := specV_parts (by rw [valid_eq]; exact h)
  obtain ⟨t1, t2, t3, t4, t5⟩ := implV_parts h
  refine ⟨q1, q2, q3, q4, t4, fun j hj => Nat.le_trans (small_of_total (by omega) j hj) (by omega), fun j hj => ?_⟩
  have h6 : ∀ (ps : List PP) (fs : List PF), pendsOk ps fs = true → ∀ p ∈ ps, p.2.2.length = 128 := by
    intro ps
    induction ps with
    | nil => intro fs _ p hp; cases hp
    | cons q r ih =>
      intro fs hc p hp
      simp only [pendsOk, pendOk, Bool.and_eq_true, beq_iff_eq] at hc
      rcases List.mem_cons.1 hp with e | e
      · rw [e]; exact hc.1.1.2
      · exact ih _ hc.2 p e
  have h7 := h6 ps fs (cacheI_parts t5).1 (ps[j]) (List.getElem_mem hj)
  simp only [List.getD, List.getElem?_eq_getElem hj, Option.getD_some]
  omega
end Go.Proofs.Yteienboknicpjaa
