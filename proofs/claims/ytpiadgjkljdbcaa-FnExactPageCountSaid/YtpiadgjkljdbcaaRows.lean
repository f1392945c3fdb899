/-
  No cell of these rows narrows 'for every input' (looked for: loops, veiled, ifaces, maps, wideKeys, modest, calm, conditions, laid).
  DERIVED. THE GIVEN ROWS OF THIS SEAT. 6 by the template 'for every input the law returns true; each argument reads behind the call as it read before'; 0 by the template 'total and deterministic' (their statements: YtpiadgjkljdbcaaTotals.lean).
  GIVEN WITH THE SEED: the statements are not yours to turn. If you find one false, say at which input.
  Laid BY PROGRAM, IN A SANDBOX (cutbox-rows.mjs): the forced cells as the released guide's own fill.sh prints them over the translation 542a2065902f2d7d… (all of the seat's roots in one cut). By AI agents, Wed Nov 11 2026. No macro, syntax, notation, axiom, sorry.
-/
import Derived.Test.YtpiadgjkljdbcaaChecked
import GoSem.Claim
import GoSem.ClaimJoined
import GoSem.ClaimMapViews
import Derived.JoinedTies
import Derived.KernelRfl
namespace Go.Proofs.Ytpiadgjkljdbcaa
/- THE CELL 'sum', in the pinned program and in every row, IS THE sha256 OF THE DUMP (.gsa) THAT YtpiadgjkljdbcaaProg.lean LOADS. Nothing in Lean hashes anything: it is a label: what it is worth is what the hold of that sum in a sandbox is worth. -/
noncomputable def Try.pinned : Pinned := { name := "ytpiadgjkljdbcaa", sum := "542a2065902f2d7d9a905fcd2b3eb2728ca667dd56767c08e86ac95f3e288891", checked := Try.checked }
namespace Rows
def none {H : Type} : Left H := { results := [], args := [] }

/-- 'laws.FnExactCrc': WHATEVER THE INPUT: true; the input reads as it did. -/
def fnExactCrcSpec : ChangeSpec := { name := "fnExactCrc", fn := fun _ => fun
  | [d1, d2] => { results := [.lit (.bool true)], args := [d1, d2] }
  | _ => none }
def fnExactCrcRow : OpenClaim := { program := "ytpiadgjkljdbcaa", sum := "542a2065902f2d7d9a905fcd2b3eb2728ca667dd56767c08e86ac95f3e288891", func := "loop.example/s02098/laws.FnExactCrc", spec := "fnExactCrc", apart := false }
def FnExactCrcSaid : Prop := fnExactCrcRow.holds Try.pinned (OpenSpec.ofChange fnExactCrcSpec)

/-- ITS FALSE NEIGHBOUR: 'it returns false'. Refute it at one input. -/
def fnExactCrcWrong : ChangeSpec := { name := "fnExactCrc", fn := fun _ => fun
  | [d1, d2] => { results := [.lit (.bool false)], args := [d1, d2] }
  | _ => none }
def FnExactCrcWrongFalsely : Prop := fnExactCrcRow.holds Try.pinned (OpenSpec.ofChange fnExactCrcWrong)

/-- 'laws.FnExactTreeNew': WHATEVER THE INPUT: true; the input reads as it did. -/
def fnExactTreeNewSpec : ChangeSpec := { name := "fnExactTreeNew", fn := fun _ => fun
  | [] => { results := [.lit (.bool true)], args := [] }
  | _ => none }
def fnExactTreeNewRow : OpenClaim := { program := "ytpiadgjkljdbcaa", sum := "542a2065902f2d7d9a905fcd2b3eb2728ca667dd56767c08e86ac95f3e288891", func := "loop.example/s02098/laws.FnExactTreeNew", spec := "fnExactTreeNew", unfollowed := true, recurses := true, apart := false }
def FnExactTreeNewSaid : Prop := fnExactTreeNewRow.holds Try.pinned (OpenSpec.ofChange fnExactTreeNewSpec)

/-- ITS FALSE NEIGHBOUR: 'it returns false'. Refute it at one input. -/
def fnExactTreeNewWrong : ChangeSpec := { name := "fnExactTreeNew", fn := fun _ => fun
  | [] => { results := [.lit (.bool false)], args := [] }
  | _ => none }
def FnExactTreeNewWrongFalsely : Prop := fnExactTreeNewRow.holds Try.pinned (OpenSpec.ofChange fnExactTreeNewWrong)

/-- 'laws.FnExactDiskNew': WHATEVER THE INPUT: true; the input reads as it did. -/
def fnExactDiskNewSpec : ChangeSpec := { name := "fnExactDiskNew", fn := fun _ => fun
  | [d] => { results := [.lit (.bool true)], args := [d] }
  | _ => none }
def fnExactDiskNewRow : OpenClaim := { program := "ytpiadgjkljdbcaa", sum := "542a2065902f2d7d9a905fcd2b3eb2728ca667dd56767c08e86ac95f3e288891", func := "loop.example/s02098/laws.FnExactDiskNew", spec := "fnExactDiskNew", apart := false }
def FnExactDiskNewSaid : Prop := fnExactDiskNewRow.holds Try.pinned (OpenSpec.ofChange fnExactDiskNewSpec)

/-- ITS FALSE NEIGHBOUR: 'it returns false'. Refute it at one input. -/
def fnExactDiskNewWrong : ChangeSpec := { name := "fnExactDiskNew", fn := fun _ => fun
  | [d] => { results := [.lit (.bool false)], args := [d] }
  | _ => none }
def FnExactDiskNewWrongFalsely : Prop := fnExactDiskNewRow.holds Try.pinned (OpenSpec.ofChange fnExactDiskNewWrong)

/-- 'laws.FnExactValidDisk': WHATEVER THE INPUT: true; the input reads as it did. -/
def fnExactValidDiskSpec : ChangeSpec := { name := "fnExactValidDisk", fn := fun _ => fun
  | [d] => { results := [.lit (.bool true)], args := [d] }
  | _ => none }
def fnExactValidDiskRow : OpenClaim := { program := "ytpiadgjkljdbcaa", sum := "542a2065902f2d7d9a905fcd2b3eb2728ca667dd56767c08e86ac95f3e288891", func := "loop.example/s02098/laws.FnExactValidDisk", spec := "fnExactValidDisk", apart := false }
def FnExactValidDiskSaid : Prop := fnExactValidDiskRow.holds Try.pinned (OpenSpec.ofChange fnExactValidDiskSpec)

/-- ITS FALSE NEIGHBOUR: 'it returns false'. Refute it at one input. -/
def fnExactValidDiskWrong : ChangeSpec := { name := "fnExactValidDisk", fn := fun _ => fun
  | [d] => { results := [.lit (.bool false)], args := [d] }
  | _ => none }
def FnExactValidDiskWrongFalsely : Prop := fnExactValidDiskRow.holds Try.pinned (OpenSpec.ofChange fnExactValidDiskWrong)

/-- 'laws.FnExactPageCount': WHATEVER THE INPUT: true; the input reads as it did. -/
def fnExactPageCountSpec : ChangeSpec := { name := "fnExactPageCount", fn := fun _ => fun
  | [d1, d2] => { results := [.lit (.bool true)], args := [d1, d2] }
  | _ => none }
def fnExactPageCountRow : OpenClaim := { program := "ytpiadgjkljdbcaa", sum := "542a2065902f2d7d9a905fcd2b3eb2728ca667dd56767c08e86ac95f3e288891", func := "loop.example/s02098/laws.FnExactPageCount", spec := "fnExactPageCount", apart := false }
def FnExactPageCountSaid : Prop := fnExactPageCountRow.holds Try.pinned (OpenSpec.ofChange fnExactPageCountSpec)

/-- ITS FALSE NEIGHBOUR: 'it returns false'. Refute it at one input. -/
def fnExactPageCountWrong : ChangeSpec := { name := "fnExactPageCount", fn := fun _ => fun
  | [d1, d2] => { results := [.lit (.bool false)], args := [d1, d2] }
  | _ => none }
def FnExactPageCountWrongFalsely : Prop := fnExactPageCountRow.holds Try.pinned (OpenSpec.ofChange fnExactPageCountWrong)

/-- 'laws.FnExactEncodeOld': WHATEVER THE INPUT: true; the input reads as it did. -/
def fnExactEncodeOldSpec : ChangeSpec := { name := "fnExactEncodeOld", fn := fun _ => fun
  | [d] => { results := [.lit (.bool true)], args := [d] }
  | _ => none }
def fnExactEncodeOldRow : OpenClaim := { program := "ytpiadgjkljdbcaa", sum := "542a2065902f2d7d9a905fcd2b3eb2728ca667dd56767c08e86ac95f3e288891", func := "loop.example/s02098/laws.FnExactEncodeOld", spec := "fnExactEncodeOld", unfollowed := true, recurses := true, apart := false }
def FnExactEncodeOldSaid : Prop := fnExactEncodeOldRow.holds Try.pinned (OpenSpec.ofChange fnExactEncodeOldSpec)

/-- ITS FALSE NEIGHBOUR: 'it returns false'. Refute it at one input. -/
def fnExactEncodeOldWrong : ChangeSpec := { name := "fnExactEncodeOld", fn := fun _ => fun
  | [d] => { results := [.lit (.bool false)], args := [d] }
  | _ => none }
def FnExactEncodeOldWrongFalsely : Prop := fnExactEncodeOldRow.holds Try.pinned (OpenSpec.ofChange fnExactEncodeOldWrong)

/- THE SECOND FORM. 'bulk': how many values and letters a reading holds, each counted each time it is reached (what is shared counts as often as it is met; a slice's spare places count too). A statement '..UptoSaid' is the law's where the arguments, and the package variables that the reading takes, are together of bulk at most 1048576: NARROWER than '..Said'. Prove '..Said' where nothing that the law and all that it calls make is longer than what came in: it says more and counts as full. Else prove '..UptoSaid'. A law counts once. -/
mutual
def uptoBulk {H : Type} : DataW H → Nat
  | .lit (.string bytes) => bytes.length + 1
  | .lit _ => 1
  | .nil => 1
  | .ptr d => uptoBulk d + 1
  | .slice elems spare => uptoBulkAll elems + uptoBulkAll spare + 1
  | .agg parts => uptoBulkAll parts + 1
  | .iface _ d => uptoBulk d + 1
  | .map entries => uptoBulkEntries entries + 1
  | .held _ => 1
def uptoBulkAll {H : Type} : List (DataW H) → Nat
  | [] => 0
  | d :: r => uptoBulk d + uptoBulkAll r
def uptoBulkEntries {H : Type} : List (Lit × DataW H) → Nat
  | [] => 0
  | x :: r => uptoBulkEntry x + uptoBulkEntries r
def uptoBulkEntry {H : Type} : Lit × DataW H → Nat
  | (.string bytes, d) => bytes.length + uptoBulk d + 1
  | (_, d) => uptoBulk d + 1
 end
def uptoSmall : (H : Type) → List (DataW H) → Bool := fun _ ds => decide (uptoBulkAll ds ≤ 1048576)
def OpenSpec.upto (s : _root_.Go.ChangeSpec) : _root_.Go.OpenSpec := { _root_.Go.OpenSpec.ofChange s with cond := some uptoSmall }

/-- 'laws.FnExactCrc', WHERE WHAT IT READS IS OF BULK AT MOST 1048576: true; the input reads as it did. -/
def fnExactCrcUptoRow : OpenClaim := { program := "ytpiadgjkljdbcaa", sum := "542a2065902f2d7d9a905fcd2b3eb2728ca667dd56767c08e86ac95f3e288891", func := "loop.example/s02098/laws.FnExactCrc", spec := "fnExactCrc", apart := false, narrowed := true }
def FnExactCrcUptoSaid : Prop := fnExactCrcUptoRow.holds Try.pinned (OpenSpec.upto fnExactCrcSpec)

/-- 'laws.FnExactTreeNew', WHERE WHAT IT READS IS OF BULK AT MOST 1048576: true; the input reads as it did. -/
def fnExactTreeNewUptoRow : OpenClaim := { program := "ytpiadgjkljdbcaa", sum := "542a2065902f2d7d9a905fcd2b3eb2728ca667dd56767c08e86ac95f3e288891", func := "loop.example/s02098/laws.FnExactTreeNew", spec := "fnExactTreeNew", unfollowed := true, recurses := true, apart := false, narrowed := true }
def FnExactTreeNewUptoSaid : Prop := fnExactTreeNewUptoRow.holds Try.pinned (OpenSpec.upto fnExactTreeNewSpec)

/-- 'laws.FnExactDiskNew', WHERE WHAT IT READS IS OF BULK AT MOST 1048576: true; the input reads as it did. -/
def fnExactDiskNewUptoRow : OpenClaim := { program := "ytpiadgjkljdbcaa", sum := "542a2065902f2d7d9a905fcd2b3eb2728ca667dd56767c08e86ac95f3e288891", func := "loop.example/s02098/laws.FnExactDiskNew", spec := "fnExactDiskNew", apart := false, narrowed := true }
def FnExactDiskNewUptoSaid : Prop := fnExactDiskNewUptoRow.holds Try.pinned (OpenSpec.upto fnExactDiskNewSpec)

/-- 'laws.FnExactValidDisk', WHERE WHAT IT READS IS OF BULK AT MOST 1048576: true; the input reads as it did. -/
def fnExactValidDiskUptoRow : OpenClaim := { program := "ytpiadgjkljdbcaa", sum := "542a2065902f2d7d9a905fcd2b3eb2728ca667dd56767c08e86ac95f3e288891", func := "loop.example/s02098/laws.FnExactValidDisk", spec := "fnExactValidDisk", apart := false, narrowed := true }
def FnExactValidDiskUptoSaid : Prop := fnExactValidDiskUptoRow.holds Try.pinned (OpenSpec.upto fnExactValidDiskSpec)

/-- 'laws.FnExactPageCount', WHERE WHAT IT READS IS OF BULK AT MOST 1048576: true; the input reads as it did. -/
def fnExactPageCountUptoRow : OpenClaim := { program := "ytpiadgjkljdbcaa", sum := "542a2065902f2d7d9a905fcd2b3eb2728ca667dd56767c08e86ac95f3e288891", func := "loop.example/s02098/laws.FnExactPageCount", spec := "fnExactPageCount", apart := false, narrowed := true }
def FnExactPageCountUptoSaid : Prop := fnExactPageCountUptoRow.holds Try.pinned (OpenSpec.upto fnExactPageCountSpec)

/-- 'laws.FnExactEncodeOld', WHERE WHAT IT READS IS OF BULK AT MOST 1048576: true; the input reads as it did. -/
def fnExactEncodeOldUptoRow : OpenClaim := { program := "ytpiadgjkljdbcaa", sum := "542a2065902f2d7d9a905fcd2b3eb2728ca667dd56767c08e86ac95f3e288891", func := "loop.example/s02098/laws.FnExactEncodeOld", spec := "fnExactEncodeOld", unfollowed := true, recurses := true, apart := false, narrowed := true }
def FnExactEncodeOldUptoSaid : Prop := fnExactEncodeOldUptoRow.holds Try.pinned (OpenSpec.upto fnExactEncodeOldSpec)

end Rows
end Go.Proofs.Ytpiadgjkljdbcaa
