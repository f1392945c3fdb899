import Derived.Test.YtmmdkjeoadlikaaWs
import Derived.Test.YtmmdkjeoadlikaaTd
import Derived.Test.YtmmdkjeoadlikaaTe
namespace Go.Proofs.Ytmmdkjeoadlikaa
open Go.RowKit
set_option linter.unusedVariables false
set_option maxRecDepth 100000

/-- A disk's two lists in memory of one's own, all in the blocks from lo to hi. -/
structure OwnZ (w : World) (lo hi : Nat) (v u : Value) (fs : List PF) (ps : List PP) : Prop where
  ex : ∃ xs vs ys us, OwnD w lo v u fs ps xs vs ys us ∧ ∀ g, Blk v vs g ∨ Blk u us g → g < hi
theorem OwnZ.below {w w' : World} {lo hi : Nat} {v u : Value} {fs : List PF} {ps : List PP} (h : OwnZ w lo hi v u fs ps) (hb : Below w.heap.size w w') : OwnZ w' lo hi v u fs ps := by
  obtain ⟨xs, vs, ys, us, hO, hg⟩ := h.ex
  exact ⟨xs, vs, ys, us, hO.below hb, hg⟩
theorem OwnZ.fr {S : Nat → Prop} {w w' : World} {lo hi : Nat} {v u : Value} {fs : List PF} {ps : List PP} (h : OwnZ w lo hi v u fs ps) (hf : Fr S w w') (hS : ∀ g, S g → g < lo ∨ hi ≤ g) : OwnZ w' lo hi v u fs ps := by
  obtain ⟨xs, vs, ys, us, hO, hg⟩ := h.ex
  refine ⟨xs, vs, ys, us, hO.frS hf (fun g hs hb => ?_), hg⟩
  have h1 := hg g hb
  have h2 := (hO.blk hb).1
  have := hS g hs
  omega
theorem OwnZ.files {w : World} {lo hi : Nat} {a : Option Addr} {n c : Nat} {u : Value} {fs : List PF} {ps : List PP} (h : OwnZ w lo hi (.slice a n c) u fs ps) : FilesAt w lo w.heap.size a n c fs := by
  obtain ⟨xs, vs, ys, us, hO, hg⟩ := h.ex
  obtain ⟨a', n', c', e, _, hF⟩ := hO.files.files
  cases e
  exact hF
theorem OwnZ.pends {w : World} {lo hi : Nat} {b : Option Addr} {m d : Nat} {v : Value} {fs : List PF} {ps : List PP} (h : OwnZ w lo hi v (.slice b m d) fs ps) : PendsAt w lo w.heap.size b m d ps := by
  obtain ⟨xs, vs, ys, us, hO, hg⟩ := h.ex
  obtain ⟨a', n', c', e, _, hF⟩ := hO.cache.pends
  cases e
  exact hF
theorem OwnZ.up {w : World} {lo hi hi' : Nat} {v u : Value} {fs : List PF} {ps : List PP} (h : OwnZ w lo hi v u fs ps) (hh : hi ≤ hi') : OwnZ w lo hi' v u fs ps := by
  obtain ⟨xs, vs, ys, us, hO, hg⟩ := h.ex
  exact ⟨xs, vs, ys, us, hO, fun g e => Nat.lt_of_lt_of_le (hg g e) hh⟩
theorem ResAt.z {w w' : World} {e : Ending} {er cp fu : Int} {de : Bool} {fs : List PF} {ps : List PP} (h : ResAt w e w' er fs ps cp fu de) : ∃ (a : Option Addr) (c : Nat) (b : Option Addr) (d : Nat), e = .returned (.agg #[.int .i64 er, .slice a fs.length c, .slice b ps.length d, .int .i64 cp, .int .i64 fu, .bool de]) ∧ OwnZ w' w.heap.size w'.heap.size (.slice a fs.length c) (.slice b ps.length d) fs ps ∧ Below w.heap.size w w' := by
  obtain ⟨a, c, b, d, xs, vs, ys, us, e1, hO, hb⟩ := h.out
  exact ⟨a, c, b, d, e1, ⟨xs, vs, ys, us, hO, fun g hg => (hO.blk hg).2⟩, hb⟩
theorem toDisk_z (a : Option Addr) (n c : Nat) (fs : List PF) (b : Option Addr) (m d : Nat) (ps : List PP) (cp fu : Int) (de : Bool) (w : World) (A B : Nat) (hB : B ≤ w.heap.size)
    (hF : FilesAt w A B a n c fs) (hP : PendsAt w A B b m d ps) (hn : n ≤ 1048576) (hm : m ≤ 1048576) (hall : ∀ j, j < n → (fs.getD j (ByteArray.empty, [])).2.length ≤ 1048576) (hall2 : ∀ j, j < m → (ps.getD j (ByteArray.empty, 0, [])).2.2.length ≤ 1048576) :
    Calls Try.prog 9 #[.agg #[.slice a n c, .slice b m d, .int .i64 cp, .int .i64 fu, .bool de]] w fun e w' => ∃ g h, e = .returned (.agg #[.slice (some ⟨g, 0, none⟩) n n, .slice (some ⟨h, 0, none⟩) m m, .int .i64 cp, .int .i64 fu, .bool de]) ∧ OwnZ w' w.heap.size w'.heap.size (.slice (some ⟨g, 0, none⟩) n n) (.slice (some ⟨h, 0, none⟩) m m) fs ps ∧ Below w.heap.size w w' := by
  refine (toDisk_own a n c fs b m d ps cp fu de w A B hB hF hP hn hm hall hall2).mono ?_
  rintro e w' ⟨g, h, xs, vs, ys, us, rfl, hO, hb⟩
  exact ⟨g, h, rfl, ⟨xs, vs, ys, us, hO, fun g hg => (hO.blk hg).2⟩, hb⟩
theorem markDisk_z (a : Option Addr) (n c : Nat) (b : Option Addr) (m d : Nat) (cp fu de : Value) (k lo hi : Nat) (fs : List PF) (ps : List PP) (w : World) (h : OwnZ w lo hi (.slice a n c) (.slice b m d) fs ps) (hn : n = fs.length) (hm : m = ps.length) (hb : lo ≤ w.heap.size) (hk : kP (kF k fs) ps ≤ 1099511627776) :
    Calls Try.prog 13 #[.agg #[.slice a n c, .slice b m d, cp, fu, de], .int .i64 k] w fun e w' => e = .returned (.int .i64 ((kP (kF k fs) ps : Nat) : Int)) ∧ OwnZ w' lo hi (.slice a n c) (.slice b m d) (markF k fs) (markP (kF k fs) ps) ∧ Fr (fun g => lo ≤ g ∧ g < hi) w w' := by
  obtain ⟨xs, vs, ys, us, hO, hg⟩ := h.ex
  refine (markDisk_any a n c b m d cp fu de k lo fs ps xs vs ys us w hO hn hm hb hk).mono ?_
  rintro e w' ⟨rfl, xs', ys', hO', hb', hF'⟩
  exact ⟨rfl, ⟨xs', vs, ys', us, hO', hg⟩, hF'.weak (fun g e => ⟨(hO.blk e).1, hg g e⟩)⟩
theorem markDiskRes_z (er : Int) (a : Option Addr) (n c : Nat) (b : Option Addr) (m d : Nat) (cp fu : Int) (de : Bool) (k lo hi : Nat) (fs : List PF) (ps : List PP) (w : World) (h : OwnZ w lo hi (.slice a n c) (.slice b m d) fs ps) (hn : n = fs.length) (hm : m = ps.length) (hb : lo ≤ w.heap.size) (hk : kP (kF k fs) ps ≤ 1099511627776) :
    Calls Try.prog 20 #[.agg #[.int .i64 er, .slice a n c, .slice b m d, .int .i64 cp, .int .i64 fu, .bool de], .int .i64 k] w fun e w' => e = .returned (.int .i64 ((kP (kF k fs) ps : Nat) : Int)) ∧ OwnZ w' lo hi (.slice a n c) (.slice b m d) (markF k fs) (markP (kF k fs) ps) ∧ Fr (fun g => lo ≤ g ∧ g < hi) w w' := by
  obtain ⟨xs, vs, ys, us, hO, hg⟩ := h.ex
  refine (markDiskRes_any er a n c b m d cp fu de k lo fs ps xs vs ys us w hO hn hm hb hk).mono ?_
  rintro e w' ⟨rfl, xs', ys', hO', hb', hF'⟩
  exact ⟨rfl, ⟨xs', vs, ys', us, hO', hg⟩, hF'.weak (fun g e => ⟨(hO.blk e).1, hg g e⟩)⟩
theorem box_below {w w' : World} {N : Nat} {x : Obj} (h : w.heap[N]? = some x) (hb : Below w.heap.size w w') : w'.heap[N]? = some x := (hb.block N (Array.getElem?_eq_some_iff.1 h).1).trans h
theorem box_fr {S : Nat → Prop} {w w' : World} {N : Nat} {x : Obj} (h : w.heap[N]? = some x) (hf : Fr S w w') (hS : ¬ S N) : w'.heap[N]? = some x := (hf.block N (Array.getElem?_eq_some_iff.1 h).1 hS).trans h
theorem kF_bound (k : Nat) (fs : List PF) : (kF k fs : Int) ≤ k + fs.length + wFiles fs := by
  induction fs generalizing k with
  | nil => simp [kF, wFiles]
  | cons x r ih =>
    have := ih (k + 1 + x.2.length)
    simp only [kF, wFiles, wFile, List.length_cons]
    omega
theorem kP_bound (k : Nat) (ps : List PP) : (kP k ps : Int) ≤ k + 2 * ps.length + wPends ps := by
  induction ps generalizing k with
  | nil => simp [kP, wPends]
  | cons x r ih =>
    have := ih (k + 2 + x.2.2.length)
    simp only [kP, wPends, wPend, List.length_cons]
    omega
end Go.Proofs.Ytmmdkjeoadlikaa
