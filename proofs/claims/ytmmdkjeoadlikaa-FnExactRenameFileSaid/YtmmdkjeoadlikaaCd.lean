import Derived.Test.YtmmdkjeoadlikaaCsW
import Derived.Test.YtmmdkjeoadlikaaAB
namespace Go.Proofs.Ytmmdkjeoadlikaa
open Go.RowKit
set_option linter.unusedVariables false
set_option maxRecDepth 100000

set_option maxHeartbeats 400000 in
theorem clone_any (a : Option Addr) (n c : Nat) (bs : List Int) (w : World) (A B : Nat) (hB : B ≤ w.heap.size) (h : BytesAt w A B a n c bs) (hn : n ≤ 1048576) :
    Calls Try.prog 52 #[.slice a n c] w fun e w' => ∃ va vc, e = .returned (.slice va n vc) ∧ w'.ownsRow w.heap.size 5 1 (.slice va n vc) n (u8s bs) ∧ Below w.heap.size w w' := by
  have hq : ∀ (w : World) (a : Option Addr) (n c n' c' : Nat), (binOp .eql 27 (.slice a n c) (.slice none n' c')).run Try.prog w = .ok (.bool a.isNone) w := fun w a n c n' c' => Lib.run_eql_slice_nil w _ _ a n c n' c' Try.underlying27
  go_enter Try.func52, Try.ntmps52
  rcases a with _ | ad
  · have hl := h.1
    have hn0 : n = 0 := by
      by_cases h0 : n = 0
      · exact h0
      · obtain ⟨_, _, h1, _⟩ := h.2.2.2.2.1 (by omega); cases h1
    subst hn0
    have hc0 := h.2.2.2.2.2 rfl
    subst hc0
    have hbs : bs = [] := List.eq_nil_of_length_eq_zero hl
    subst hbs
    go_wp2
    go_ret
    exact ⟨none, 0, rfl, World.ownsRow_nil _ _ _ _, Below.refl _ _⟩
  · have hb2 : Below w.heap.size w (w.alloc (.cells #[] 5)) := (Below.refl _ _).alloc (Nat.le_refl _) _
    have hR2 : (w.alloc (.cells #[] 5)).ownsRow w.heap.size 5 1 (.slice (some ⟨w.heap.size, 0, none⟩) 0 0) 0 (u8s []) := by
      have := World.ownsRow_made w #[] (base := w.heap.size) (e := 5) (size := 1) 0 (by simp) (by unfold maxLen; omega) (by simp)
      simpa [u8s] using this
    have hh := h.below (hb2.mono hB)
    go_wp2_with (at_builtin; refine wpList_ab rfl _ _ rfl w.heap.size _ 0 [] rfl hR2 (some ad) n c bs _ _ rfl hh (by omega) hb2.size ?_; intro v3 w3 hO3' hg3; have hO3 : w3.ownsRow w.heap.size 5 1 v3 n (u8s bs) := (by rw [Nat.zero_add, List.nil_append] at hO3'; exact hO3'); obtain ⟨a3, c3, rfl⟩ := own_shape hO3; clear hO3')
    have hb3 := hb2.grown hg3 hb2.size (fun g e => (hR2.lt g e).1)
    go_ret
    exact ⟨a3, c3, rfl, hO3, hb3⟩
/-- The state inside copyDisk's first loop. -/
structure CFt (w X : World) (cp fu : Int) (de : Bool) (sa sb v : Value) (fs : List PF) (xs vs : List Value) : Prop where
  d : X.heap[w.heap.size]? = some (.cells #[sa, sb, .int .i64 cp, .int .i64 fu, .bool de] 32)
  r : X.heap[w.heap.size + 1]? = some (.cells #[.slice none 0 0, .slice none 0 0, .int .i64 0, .int .i64 0, .bool false] 32)
  o : X.heap[w.heap.size + 1 + 1]? = some (.cells #[v, sb, .int .i64 cp, .int .i64 fu, .bool de] 32)
  files : OwnF X (w.heap.size + 3) v fs xs vs
  bel : Below w.heap.size w X
theorem CFt.lt {w X : World} {cp fu : Int} {de : Bool} {sa sb v : Value} {fs : List PF} {xs vs : List Value} (h : CFt w X cp fu de sa sb v fs xs vs) : w.heap.size + 1 + 1 < X.heap.size := (Array.getElem?_eq_some_iff.1 h.o).1
theorem CFt.below {w X X' : World} {cp fu : Int} {de : Bool} {sa sb v : Value} {fs : List PF} {xs vs : List Value} (h : CFt w X cp fu de sa sb v fs xs vs) (hb : Below X.heap.size X X') : CFt w X' cp fu de sa sb v fs xs vs := by
  have hl := h.lt
  exact ⟨(hb.block _ (by omega)).trans h.d, (hb.block _ (by omega)).trans h.r, (hb.block _ hl).trans h.o, h.files.below hb, h.bel.trans (hb.mono h.bel.size)⟩
theorem CFt.push {w X X1 X2 X3 : World} {cp fu : Int} {de : Bool} {sa sb v v' vb : Value} {fs : List PF} {xs vs : List Value} {f : PF} (h : CFt w X cp fu de sa sb v fs xs vs) (hb : Below X.heap.size X X1)
    (hvb : X1.ownsRow X.heap.size 5 1 vb f.2.length (u8s f.2)) (hs : f.1.size ≤ maxLen) (hby : ∀ x ∈ f.2, 0 ≤ x ∧ x ≤ 255) (hb2 : Below X1.heap.size X1 X2)
    (hrow : X3.ownsRow (w.heap.size + 3) 83 2 v' (fs.length + 1) (xs ++ [.string f.1, vb])) (hgr : X2.grownBy X3 v.ownBlock) :
    CFt w (X3.setCell ⟨w.heap.size + 1 + 1, 0, none⟩ v') cp fu de sa sb v' (fs ++ [f]) (xs ++ [.string f.1, vb]) (vs ++ [vb]) := by
  have hl := h.lt
  have hs1 := hb.size
  have hs2 := hb2.size
  have h2 := (h.below hb).below hb2
  have hF : Fr (fun g => v.ownBlock = some g) X2 X3 := Fr.of_grown hgr (fun g e => e)
  have hub : ∀ g, v.ownBlock = some g → w.heap.size + 3 ≤ g := fun g e => (h.files.row.lt g e).1
  have hpush := OwnF.push h.files (by omega) hb hvb hs hby hb2 hrow hgr
  have hset := fr_setCell X3 (w.heap.size + 1 + 1) 0 v'
  have ho3 : X3.heap[w.heap.size + 1 + 1]? = _ := (hF.block _ (by omega) (fun e => by have := hub _ e; omega)).trans h2.o
  exact ⟨(hset.block _ (by have := hF.size; omega) (by omega)).trans ((hF.block _ (by omega) (fun e => by have := hub _ e; omega)).trans h2.d), (hset.block _ (by have := hF.size; omega) (by omega)).trans ((hF.block _ (by omega) (fun e => by have := hub _ e; omega)).trans h2.r), by simpa using heap_setCell_at ho3 0 v', hpush.fr hset (fun g hg e => by have := (hpush.blk hg).1; omega), (h2.bel.trans (hF.below (by have := h2.bel.size; omega) (fun g e => by have := hub g e; omega))).trans (hset.below (by have := hF.size; have := h2.bel.size; omega) (fun g e => by omega))⟩
/-- From the first loop to the second: own.Cache is nil. -/
theorem CFt.turn {w X : World} {cp fu : Int} {de : Bool} {sa sb v : Value} {fs : List PF} {xs vs : List Value} (h : CFt w X cp fu de sa sb v fs xs vs) : CSt w (X.setCell ⟨w.heap.size + 1 + 1, 1, none⟩ (.slice none 0 0)) cp fu de sa sb v (.slice none 0 0) fs xs vs [] [] [] := by
  have hl := h.lt
  have hset := fr_setCell X (w.heap.size + 1 + 1) 1 (.slice none 0 0)
  refine ⟨(hset.block _ (by omega) (by omega)).trans h.d, (hset.block _ (by omega) (by omega)).trans h.r, by simpa using heap_setCell_at h.o 1 (.slice none 0 0), h.files.fr hset (fun g hg e => by have := (h.files.blk hg).1; omega), OwnP.nil (World.ownsRow_nil _ _ _ _), ?_, h.bel.trans (hset.below (by omega) (fun g e => by omega))⟩
  intro g hg hg2
  rcases hg2 with e | ⟨j, hj, e⟩
  · simp [Value.ownBlock] at e
  · cases hj
end Go.Proofs.Ytmmdkjeoadlikaa
