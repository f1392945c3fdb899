/-
  No cell of these rows narrows 'for every input' (looked for: loops, veiled, ifaces, maps, wideKeys, modest, calm, conditions, laid).
  DERIVED. THE GIVEN ROWS OF THIS SEAT. 4 by the template 'for every input the law returns true; each argument reads behind the call as it read before'; 0 by the template 'total and deterministic' (their statements: YtpmagndofiaooaaTotals.lean).
  GIVEN WITH THE SEED: the statements are not yours to turn. If you find one false, say at which input.
  Laid BY PROGRAM, IN A SANDBOX (cutbox-rows.mjs): the forced cells as the released guide's own fill.sh prints them over the translation 569e1f71b371f52d… (all of the seat's roots in one cut). By AI agents, Wed Nov 11 2026. No macro, syntax, notation, axiom, sorry.
-/
import Derived.Test.YtpmagndofiaooaaChecked
import GoSem.Claim
import GoSem.ClaimJoined
import GoSem.ClaimMapViews
import Derived.JoinedTies
import Derived.KernelRfl
namespace Go.Proofs.Ytpmagndofiaooaa
/- THE CELL 'sum', in the pinned program and in every row, IS THE sha256 OF THE DUMP (.gsa) THAT YtpmagndofiaooaaProg.lean LOADS. Nothing in Lean hashes anything: it is a label: what it is worth is what the hold of that sum in a sandbox is worth. -/
noncomputable def Try.pinned : Pinned := { name := "ytpmagndofiaooaa", sum := "569e1f71b371f52dbb81c09fd2d66875100d974f01856bc3db64db536067ec10", checked := Try.checked }
namespace Rows
def none {H : Type} : Left H := { results := [], args := [] }

/-- 'laws.FnExactTreeBulk': WHATEVER THE INPUT: true; the input reads as it did. -/
def fnExactTreeBulkSpec : ChangeSpec := { name := "fnExactTreeBulk", fn := fun _ => fun
  | [d] => { results := [.lit (.bool true)], args := [d] }
  | _ => none }
def fnExactTreeBulkRow : OpenClaim := { program := "ytpmagndofiaooaa", sum := "569e1f71b371f52dbb81c09fd2d66875100d974f01856bc3db64db536067ec10", func := "loop.example/s02098/laws.FnExactTreeBulk", spec := "fnExactTreeBulk", unfollowed := true, recurses := true, apart := false }
def FnExactTreeBulkSaid : Prop := fnExactTreeBulkRow.holds Try.pinned (OpenSpec.ofChange fnExactTreeBulkSpec)

/-- ITS FALSE NEIGHBOUR: 'it returns false'. Refute it at one input. -/
def fnExactTreeBulkWrong : ChangeSpec := { name := "fnExactTreeBulk", fn := fun _ => fun
  | [d] => { results := [.lit (.bool false)], args := [d] }
  | _ => none }
def FnExactTreeBulkWrongFalsely : Prop := fnExactTreeBulkRow.holds Try.pinned (OpenSpec.ofChange fnExactTreeBulkWrong)

/-- 'laws.FnExactValidTree': WHATEVER THE INPUT: true; the input reads as it did. -/
def fnExactValidTreeSpec : ChangeSpec := { name := "fnExactValidTree", fn := fun _ => fun
  | [d] => { results := [.lit (.bool true)], args := [d] }
  | _ => none }
def fnExactValidTreeRow : OpenClaim := { program := "ytpmagndofiaooaa", sum := "569e1f71b371f52dbb81c09fd2d66875100d974f01856bc3db64db536067ec10", func := "loop.example/s02098/laws.FnExactValidTree", spec := "fnExactValidTree", unfollowed := true, recurses := true, apart := false }
def FnExactValidTreeSaid : Prop := fnExactValidTreeRow.holds Try.pinned (OpenSpec.ofChange fnExactValidTreeSpec)

/-- ITS FALSE NEIGHBOUR: 'it returns false'. Refute it at one input. -/
def fnExactValidTreeWrong : ChangeSpec := { name := "fnExactValidTree", fn := fun _ => fun
  | [d] => { results := [.lit (.bool false)], args := [d] }
  | _ => none }
def FnExactValidTreeWrongFalsely : Prop := fnExactValidTreeRow.holds Try.pinned (OpenSpec.ofChange fnExactValidTreeWrong)

/-- 'laws.FnExactTreeGet': WHATEVER THE INPUT: true; the input reads as it did. -/
def fnExactTreeGetSpec : ChangeSpec := { name := "fnExactTreeGet", fn := fun _ => fun
  | [d1, d2] => { results := [.lit (.bool true)], args := [d1, d2] }
  | _ => none }
def fnExactTreeGetRow : OpenClaim := { program := "ytpmagndofiaooaa", sum := "569e1f71b371f52dbb81c09fd2d66875100d974f01856bc3db64db536067ec10", func := "loop.example/s02098/laws.FnExactTreeGet", spec := "fnExactTreeGet", unfollowed := true, recurses := true, apart := false }
def FnExactTreeGetSaid : Prop := fnExactTreeGetRow.holds Try.pinned (OpenSpec.ofChange fnExactTreeGetSpec)

/-- ITS FALSE NEIGHBOUR: 'it returns false'. Refute it at one input. -/
def fnExactTreeGetWrong : ChangeSpec := { name := "fnExactTreeGet", fn := fun _ => fun
  | [d1, d2] => { results := [.lit (.bool false)], args := [d1, d2] }
  | _ => none }
def FnExactTreeGetWrongFalsely : Prop := fnExactTreeGetRow.holds Try.pinned (OpenSpec.ofChange fnExactTreeGetWrong)

/-- 'laws.FnExactTreeScan': WHATEVER THE INPUT: true; the input reads as it did. -/
def fnExactTreeScanSpec : ChangeSpec := { name := "fnExactTreeScan", fn := fun _ => fun
  | [d1, d2, d3] => { results := [.lit (.bool true)], args := [d1, d2, d3] }
  | _ => none }
def fnExactTreeScanRow : OpenClaim := { program := "ytpmagndofiaooaa", sum := "569e1f71b371f52dbb81c09fd2d66875100d974f01856bc3db64db536067ec10", func := "loop.example/s02098/laws.FnExactTreeScan", spec := "fnExactTreeScan", unfollowed := true, recurses := true, apart := false }
def FnExactTreeScanSaid : Prop := fnExactTreeScanRow.holds Try.pinned (OpenSpec.ofChange fnExactTreeScanSpec)

/-- ITS FALSE NEIGHBOUR: 'it returns false'. Refute it at one input. -/
def fnExactTreeScanWrong : ChangeSpec := { name := "fnExactTreeScan", fn := fun _ => fun
  | [d1, d2, d3] => { results := [.lit (.bool false)], args := [d1, d2, d3] }
  | _ => none }
def FnExactTreeScanWrongFalsely : Prop := fnExactTreeScanRow.holds Try.pinned (OpenSpec.ofChange fnExactTreeScanWrong)

/- THE SECOND FORM. 'bulk': how many values and letters a reading holds, each counted each time it is reached (what is shared counts as often as it is met; a slice's spare places count too). A statement '..UptoSaid' is the law's where the arguments, and the package variables that the reading takes, are together of bulk at most 1048576: NARROWER than '..Said'. Prove '..Said' where nothing that the law and all that it calls make is longer than what came in: it says more and counts as full. Else prove '..UptoSaid'. A law counts once. -/
mutual
def uptoBulk {H : Type} : DataW H → Nat
  | .lit (.string bytes) => bytes.length + 1
  | .lit _ => 1
  | .nil => 1
  | .ptr d => uptoBulk d + 1
  | .slice elems spare => uptoBulkAll elems + uptoBulkAll spare + 1
  | .agg parts => uptoBulkAll parts + 1
  | .iface _ d => uptoBulk d + 1
  | .map entries => uptoBulkEntries entries + 1
  | .held _ => 1
def uptoBulkAll {H : Type} : List (DataW H) → Nat
  | [] => 0
  | d :: r => uptoBulk d + uptoBulkAll r
def uptoBulkEntries {H : Type} : List (Lit × DataW H) → Nat
  | [] => 0
  | x :: r => uptoBulkEntry x + uptoBulkEntries r
def uptoBulkEntry {H : Type} : Lit × DataW H → Nat
  | (.string bytes, d) => bytes.length + uptoBulk d + 1
  | (_, d) => uptoBulk d + 1
 end
def uptoSmall : (H : Type) → List (DataW H) → Bool := fun _ ds => decide (uptoBulkAll ds ≤ 1048576)
def OpenSpec.upto (s : _root_.Go.ChangeSpec) : _root_.Go.OpenSpec := { _root_.Go.OpenSpec.ofChange s with cond := some uptoSmall }

/-- 'laws.FnExactTreeBulk', WHERE WHAT IT READS IS OF BULK AT MOST 1048576: true; the input reads as it did. -/
def fnExactTreeBulkUptoRow : OpenClaim := { program := "ytpmagndofiaooaa", sum := "569e1f71b371f52dbb81c09fd2d66875100d974f01856bc3db64db536067ec10", func := "loop.example/s02098/laws.FnExactTreeBulk", spec := "fnExactTreeBulk", unfollowed := true, recurses := true, apart := false, narrowed := true }
def FnExactTreeBulkUptoSaid : Prop := fnExactTreeBulkUptoRow.holds Try.pinned (OpenSpec.upto fnExactTreeBulkSpec)

/-- 'laws.FnExactValidTree', WHERE WHAT IT READS IS OF BULK AT MOST 1048576: true; the input reads as it did. -/
def fnExactValidTreeUptoRow : OpenClaim := { program := "ytpmagndofiaooaa", sum := "569e1f71b371f52dbb81c09fd2d66875100d974f01856bc3db64db536067ec10", func := "loop.example/s02098/laws.FnExactValidTree", spec := "fnExactValidTree", unfollowed := true, recurses := true, apart := false, narrowed := true }
def FnExactValidTreeUptoSaid : Prop := fnExactValidTreeUptoRow.holds Try.pinned (OpenSpec.upto fnExactValidTreeSpec)

/-- 'laws.FnExactTreeGet', WHERE WHAT IT READS IS OF BULK AT MOST 1048576: true; the input reads as it did. -/
def fnExactTreeGetUptoRow : OpenClaim := { program := "ytpmagndofiaooaa", sum := "569e1f71b371f52dbb81c09fd2d66875100d974f01856bc3db64db536067ec10", func := "loop.example/s02098/laws.FnExactTreeGet", spec := "fnExactTreeGet", unfollowed := true, recurses := true, apart := false, narrowed := true }
def FnExactTreeGetUptoSaid : Prop := fnExactTreeGetUptoRow.holds Try.pinned (OpenSpec.upto fnExactTreeGetSpec)

/-- 'laws.FnExactTreeScan', WHERE WHAT IT READS IS OF BULK AT MOST 1048576: true; the input reads as it did. -/
def fnExactTreeScanUptoRow : OpenClaim := { program := "ytpmagndofiaooaa", sum := "569e1f71b371f52dbb81c09fd2d66875100d974f01856bc3db64db536067ec10", func := "loop.example/s02098/laws.FnExactTreeScan", spec := "fnExactTreeScan", unfollowed := true, recurses := true, apart := false, narrowed := true }
def FnExactTreeScanUptoSaid : Prop := fnExactTreeScanUptoRow.holds Try.pinned (OpenSpec.upto fnExactTreeScanSpec)

end Rows
end Go.Proofs.Ytpmagndofiaooaa
