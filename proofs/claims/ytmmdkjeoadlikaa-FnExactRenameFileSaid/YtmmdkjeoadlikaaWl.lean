import Derived.Test.YtmmdkjeoadlikaaWs
import Derived.Test.YtmmdkjeoadlikaaCd
namespace Go.Proofs.Ytmmdkjeoadlikaa
open Go.RowKit
set_option linter.unusedVariables false
set_option maxRecDepth 100000

set_option maxHeartbeats 800000 in
theorem l1Live_any (a : Option Addr) (n c : Nat) (fs : List PF) (b : Option Addr) (m d : Nat) (ps : List PP) (cp fu : Int) (de : Bool) (w : World) (A B : Nat) (hB : B ≤ w.heap.size) (hF : FilesAt w A B a n c fs) (hP : PendsAt w A B b m d ps)
    (hall : ∀ j, j < n → (fs.getD j (ByteArray.empty, [])).2.length ≤ 1048576) :
    Calls Try.prog 39 #[.agg #[.slice a n c, .slice b m d, .int .i64 cp, .int .i64 fu, .bool de]] w fun e w' => e = .returned (.bool (specV fs ps cp fu && !de)) ∧ Below w.heap.size w w' := by
  have hb0 : Below w.heap.size w (w.alloc (.cells #[.slice a n c, .slice b m d, .int .i64 cp, .int .i64 fu, .bool de] 32)) := (Below.refl _ _).alloc (Nat.le_refl _) _
  have k0 := heap_alloc_new w (.cells #[.slice a n c, .slice b m d, .int .i64 cp, .int .i64 fu, .bool de] 32)
  have HC : Hid (Calls Try.prog 28 #[.agg #[.slice a n c, .slice b m d, .int .i64 cp, .int .i64 fu, .bool de]] (w.alloc (.cells #[.slice a n c, .slice b m d, .int .i64 cp, .int .i64 fu, .bool de] 32)) fun e w' => e = .returned (.bool (specV fs ps cp fu)) ∧ Below (w.alloc (.cells #[.slice a n c, .slice b m d, .int .i64 cp, .int .i64 fu, .bool de] 32)).heap.size (w.alloc (.cells #[.slice a n c, .slice b m d, .int .i64 cp, .int .i64 fu, .bool de] 32)) w') := specValid_any a n c fs b m d ps cp fu de _ A B (by simp; omega) (hF.below (hb0.mono hB)) (hP.below (hb0.mono hB)) hall
  clear hF hP hall
  generalize specV fs ps cp fu = ok at HC
  go_enter Try.func39, Try.ntmps39
  go_wp2_with fail
  refine HC.out.mono ?_
  rintro e w1 ⟨rfl, hb1⟩
  have j0 := (hb1.block w.heap.size (by simp)).trans k0
  obtain ⟨p0, p1, p2, p3, p4⟩ := box_fiveC j0
  have hR : Below w.heap.size w w1 := hb0.trans (hb1.mono hb0.size)
  clear HC hb0 hb1 k0 j0
  cases ok
  · go_wp2
    go_ret
    exact ⟨rfl, hR⟩
  · go_wp2
    go_ret
    exact ⟨rfl, hR⟩
end Go.Proofs.Ytmmdkjeoadlikaa
