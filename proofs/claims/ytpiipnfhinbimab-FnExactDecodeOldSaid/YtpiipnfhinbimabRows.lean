/-
  No cell of these rows narrows 'for every input' (looked for: loops, veiled, ifaces, maps, wideKeys, modest, calm, conditions, laid).
  DERIVED. THE GIVEN ROWS OF THIS SEAT. 6 by the template 'for every input the law returns true; each argument reads behind the call as it read before'; 0 by the template 'total and deterministic' (their statements: YtpiipnfhinbimabTotals.lean).
  GIVEN WITH THE SEED: the statements are not yours to turn. If you find one false, say at which input.
  Laid BY PROGRAM, IN A SANDBOX (cutbox-rows.mjs): the forced cells as the released guide's own fill.sh prints them over the translation b9d8f9e19a6bd41e… (all of the seat's roots in one cut). By AI agents, Wed Nov 11 2026. No macro, syntax, notation, axiom, sorry.
-/
import Derived.Test.YtpiipnfhinbimabChecked
import GoSem.Claim
import GoSem.ClaimJoined
import GoSem.ClaimMapViews
import Derived.JoinedTies
import Derived.KernelRfl
namespace Go.Proofs.Ytpiipnfhinbimab
/- THE CELL 'sum', in the pinned program and in every row, IS THE sha256 OF THE DUMP (.gsa) THAT YtpiipnfhinbimabProg.lean LOADS. Nothing in Lean hashes anything: it is a label: what it is worth is what the hold of that sum in a sandbox is worth. -/
noncomputable def Try.pinned : Pinned := { name := "ytpiipnfhinbimab", sum := "b9d8f9e19a6bd41e71f43432e9b7c381e250a0051d3a3d66f6ea72e930388ca4", checked := Try.checked }
namespace Rows
def none {H : Type} : Left H := { results := [], args := [] }

/-- 'laws.FnExactPageCount': WHATEVER THE INPUT: true; the input reads as it did. -/
def fnExactPageCountSpec : ChangeSpec := { name := "fnExactPageCount", fn := fun _ => fun
  | [d1, d2] => { results := [.lit (.bool true)], args := [d1, d2] }
  | _ => none }
def fnExactPageCountRow : OpenClaim := { program := "ytpiipnfhinbimab", sum := "b9d8f9e19a6bd41e71f43432e9b7c381e250a0051d3a3d66f6ea72e930388ca4", func := "loop.example/s02098/laws.FnExactPageCount", spec := "fnExactPageCount", plainKeys := false, apart := false }
def FnExactPageCountSaid : Prop := fnExactPageCountRow.holds Try.pinned (OpenSpec.ofChange fnExactPageCountSpec)

/-- ITS FALSE NEIGHBOUR: 'it returns false'. Refute it at one input. -/
def fnExactPageCountWrong : ChangeSpec := { name := "fnExactPageCount", fn := fun _ => fun
  | [d1, d2] => { results := [.lit (.bool false)], args := [d1, d2] }
  | _ => none }
def FnExactPageCountWrongFalsely : Prop := fnExactPageCountRow.holds Try.pinned (OpenSpec.ofChange fnExactPageCountWrong)

/-- 'laws.FnBulk': WHATEVER THE INPUT: true; the input reads as it did. -/
def fnBulkSpec : ChangeSpec := { name := "fnBulk", fn := fun _ => fun
  | [d] => { results := [.lit (.bool true)], args := [d] }
  | _ => none }
def fnBulkRow : OpenClaim := { program := "ytpiipnfhinbimab", sum := "b9d8f9e19a6bd41e71f43432e9b7c381e250a0051d3a3d66f6ea72e930388ca4", func := "loop.example/s02098/laws.FnBulk", spec := "fnBulk", unfollowed := true, recurses := true, plainKeys := false, apart := false }
def FnBulkSaid : Prop := fnBulkRow.holds Try.pinned (OpenSpec.ofChange fnBulkSpec)

/-- ITS FALSE NEIGHBOUR: 'it returns false'. Refute it at one input. -/
def fnBulkWrong : ChangeSpec := { name := "fnBulk", fn := fun _ => fun
  | [d] => { results := [.lit (.bool false)], args := [d] }
  | _ => none }
def FnBulkWrongFalsely : Prop := fnBulkRow.holds Try.pinned (OpenSpec.ofChange fnBulkWrong)

/-- 'laws.FnExactValidTree': WHATEVER THE INPUT: true; the input reads as it did. -/
def fnExactValidTreeSpec : ChangeSpec := { name := "fnExactValidTree", fn := fun _ => fun
  | [d] => { results := [.lit (.bool true)], args := [d] }
  | _ => none }
def fnExactValidTreeRow : OpenClaim := { program := "ytpiipnfhinbimab", sum := "b9d8f9e19a6bd41e71f43432e9b7c381e250a0051d3a3d66f6ea72e930388ca4", func := "loop.example/s02098/laws.FnExactValidTree", spec := "fnExactValidTree", unfollowed := true, recurses := true, plainKeys := false, apart := false }
def FnExactValidTreeSaid : Prop := fnExactValidTreeRow.holds Try.pinned (OpenSpec.ofChange fnExactValidTreeSpec)

/-- ITS FALSE NEIGHBOUR: 'it returns false'. Refute it at one input. -/
def fnExactValidTreeWrong : ChangeSpec := { name := "fnExactValidTree", fn := fun _ => fun
  | [d] => { results := [.lit (.bool false)], args := [d] }
  | _ => none }
def FnExactValidTreeWrongFalsely : Prop := fnExactValidTreeRow.holds Try.pinned (OpenSpec.ofChange fnExactValidTreeWrong)

/-- 'laws.FnExactEncodeOld': WHATEVER THE INPUT: true; the input reads as it did. -/
def fnExactEncodeOldSpec : ChangeSpec := { name := "fnExactEncodeOld", fn := fun _ => fun
  | [d] => { results := [.lit (.bool true)], args := [d] }
  | _ => none }
def fnExactEncodeOldRow : OpenClaim := { program := "ytpiipnfhinbimab", sum := "b9d8f9e19a6bd41e71f43432e9b7c381e250a0051d3a3d66f6ea72e930388ca4", func := "loop.example/s02098/laws.FnExactEncodeOld", spec := "fnExactEncodeOld", unfollowed := true, recurses := true, plainKeys := false, apart := false }
def FnExactEncodeOldSaid : Prop := fnExactEncodeOldRow.holds Try.pinned (OpenSpec.ofChange fnExactEncodeOldSpec)

/-- ITS FALSE NEIGHBOUR: 'it returns false'. Refute it at one input. -/
def fnExactEncodeOldWrong : ChangeSpec := { name := "fnExactEncodeOld", fn := fun _ => fun
  | [d] => { results := [.lit (.bool false)], args := [d] }
  | _ => none }
def FnExactEncodeOldWrongFalsely : Prop := fnExactEncodeOldRow.holds Try.pinned (OpenSpec.ofChange fnExactEncodeOldWrong)

/-- 'laws.FnExactDecodeOld': WHATEVER THE INPUT: true; the input reads as it did. -/
def fnExactDecodeOldSpec : ChangeSpec := { name := "fnExactDecodeOld", fn := fun _ => fun
  | [d] => { results := [.lit (.bool true)], args := [d] }
  | _ => none }
def fnExactDecodeOldRow : OpenClaim := { program := "ytpiipnfhinbimab", sum := "b9d8f9e19a6bd41e71f43432e9b7c381e250a0051d3a3d66f6ea72e930388ca4", func := "loop.example/s02098/laws.FnExactDecodeOld", spec := "fnExactDecodeOld", unfollowed := true, recurses := true, plainKeys := false, apart := false }
def FnExactDecodeOldSaid : Prop := fnExactDecodeOldRow.holds Try.pinned (OpenSpec.ofChange fnExactDecodeOldSpec)

/-- ITS FALSE NEIGHBOUR: 'it returns false'. Refute it at one input. -/
def fnExactDecodeOldWrong : ChangeSpec := { name := "fnExactDecodeOld", fn := fun _ => fun
  | [d] => { results := [.lit (.bool false)], args := [d] }
  | _ => none }
def FnExactDecodeOldWrongFalsely : Prop := fnExactDecodeOldRow.holds Try.pinned (OpenSpec.ofChange fnExactDecodeOldWrong)

/-- 'laws.FnDisk': WHATEVER THE INPUT: true; the input reads as it did. -/
def fnDiskSpec : ChangeSpec := { name := "fnDisk", fn := fun _ => fun
  | [d] => { results := [.lit (.bool true)], args := [d] }
  | _ => none }
def fnDiskRow : OpenClaim := { program := "ytpiipnfhinbimab", sum := "b9d8f9e19a6bd41e71f43432e9b7c381e250a0051d3a3d66f6ea72e930388ca4", func := "loop.example/s02098/laws.FnDisk", spec := "fnDisk", unfollowed := true, recurses := true, plainKeys := false, apart := false }
def FnDiskSaid : Prop := fnDiskRow.holds Try.pinned (OpenSpec.ofChange fnDiskSpec)

/-- ITS FALSE NEIGHBOUR: 'it returns false'. Refute it at one input. -/
def fnDiskWrong : ChangeSpec := { name := "fnDisk", fn := fun _ => fun
  | [d] => { results := [.lit (.bool false)], args := [d] }
  | _ => none }
def FnDiskWrongFalsely : Prop := fnDiskRow.holds Try.pinned (OpenSpec.ofChange fnDiskWrong)

/- THE SECOND FORM. 'bulk': how many values and letters a reading holds, each counted each time it is reached (what is shared counts as often as it is met; a slice's spare places count too). A statement '..UptoSaid' is the law's where the arguments, and the package variables that the reading takes, are together of bulk at most 1048576: NARROWER than '..Said'. Prove '..Said' where nothing that the law and all that it calls make is longer than what came in: it says more and counts as full. Else prove '..UptoSaid'. A law counts once. -/
mutual
def uptoBulk {H : Type} : DataW H → Nat
  | .lit (.string bytes) => bytes.length + 1
  | .lit _ => 1
  | .nil => 1
  | .ptr d => uptoBulk d + 1
  | .slice elems spare => uptoBulkAll elems + uptoBulkAll spare + 1
  | .agg parts => uptoBulkAll parts + 1
  | .iface _ d => uptoBulk d + 1
  | .map entries => uptoBulkEntries entries + 1
  | .held _ => 1
def uptoBulkAll {H : Type} : List (DataW H) → Nat
  | [] => 0
  | d :: r => uptoBulk d + uptoBulkAll r
def uptoBulkEntries {H : Type} : List (Lit × DataW H) → Nat
  | [] => 0
  | x :: r => uptoBulkEntry x + uptoBulkEntries r
def uptoBulkEntry {H : Type} : Lit × DataW H → Nat
  | (.string bytes, d) => bytes.length + uptoBulk d + 1
  | (_, d) => uptoBulk d + 1
 end
def uptoSmall : (H : Type) → List (DataW H) → Bool := fun _ ds => decide (uptoBulkAll ds ≤ 1048576)
def OpenSpec.upto (s : _root_.Go.ChangeSpec) : _root_.Go.OpenSpec := { _root_.Go.OpenSpec.ofChange s with cond := some uptoSmall }

/-- 'laws.FnExactPageCount', WHERE WHAT IT READS IS OF BULK AT MOST 1048576: true; the input reads as it did. -/
def fnExactPageCountUptoRow : OpenClaim := { program := "ytpiipnfhinbimab", sum := "b9d8f9e19a6bd41e71f43432e9b7c381e250a0051d3a3d66f6ea72e930388ca4", func := "loop.example/s02098/laws.FnExactPageCount", spec := "fnExactPageCount", plainKeys := false, apart := false, narrowed := true }
def FnExactPageCountUptoSaid : Prop := fnExactPageCountUptoRow.holds Try.pinned (OpenSpec.upto fnExactPageCountSpec)

/-- 'laws.FnBulk', WHERE WHAT IT READS IS OF BULK AT MOST 1048576: true; the input reads as it did. -/
def fnBulkUptoRow : OpenClaim := { program := "ytpiipnfhinbimab", sum := "b9d8f9e19a6bd41e71f43432e9b7c381e250a0051d3a3d66f6ea72e930388ca4", func := "loop.example/s02098/laws.FnBulk", spec := "fnBulk", unfollowed := true, recurses := true, plainKeys := false, apart := false, narrowed := true }
def FnBulkUptoSaid : Prop := fnBulkUptoRow.holds Try.pinned (OpenSpec.upto fnBulkSpec)

/-- 'laws.FnExactValidTree', WHERE WHAT IT READS IS OF BULK AT MOST 1048576: true; the input reads as it did. -/
def fnExactValidTreeUptoRow : OpenClaim := { program := "ytpiipnfhinbimab", sum := "b9d8f9e19a6bd41e71f43432e9b7c381e250a0051d3a3d66f6ea72e930388ca4", func := "loop.example/s02098/laws.FnExactValidTree", spec := "fnExactValidTree", unfollowed := true, recurses := true, plainKeys := false, apart := false, narrowed := true }
def FnExactValidTreeUptoSaid : Prop := fnExactValidTreeUptoRow.holds Try.pinned (OpenSpec.upto fnExactValidTreeSpec)

/-- 'laws.FnExactEncodeOld', WHERE WHAT IT READS IS OF BULK AT MOST 1048576: true; the input reads as it did. -/
def fnExactEncodeOldUptoRow : OpenClaim := { program := "ytpiipnfhinbimab", sum := "b9d8f9e19a6bd41e71f43432e9b7c381e250a0051d3a3d66f6ea72e930388ca4", func := "loop.example/s02098/laws.FnExactEncodeOld", spec := "fnExactEncodeOld", unfollowed := true, recurses := true, plainKeys := false, apart := false, narrowed := true }
def FnExactEncodeOldUptoSaid : Prop := fnExactEncodeOldUptoRow.holds Try.pinned (OpenSpec.upto fnExactEncodeOldSpec)

/-- 'laws.FnExactDecodeOld', WHERE WHAT IT READS IS OF BULK AT MOST 1048576: true; the input reads as it did. -/
def fnExactDecodeOldUptoRow : OpenClaim := { program := "ytpiipnfhinbimab", sum := "b9d8f9e19a6bd41e71f43432e9b7c381e250a0051d3a3d66f6ea72e930388ca4", func := "loop.example/s02098/laws.FnExactDecodeOld", spec := "fnExactDecodeOld", unfollowed := true, recurses := true, plainKeys := false, apart := false, narrowed := true }
def FnExactDecodeOldUptoSaid : Prop := fnExactDecodeOldUptoRow.holds Try.pinned (OpenSpec.upto fnExactDecodeOldSpec)

/-- 'laws.FnDisk', WHERE WHAT IT READS IS OF BULK AT MOST 1048576: true; the input reads as it did. -/
def fnDiskUptoRow : OpenClaim := { program := "ytpiipnfhinbimab", sum := "b9d8f9e19a6bd41e71f43432e9b7c381e250a0051d3a3d66f6ea72e930388ca4", func := "loop.example/s02098/laws.FnDisk", spec := "fnDisk", unfollowed := true, recurses := true, plainKeys := false, apart := false, narrowed := true }
def FnDiskUptoSaid : Prop := fnDiskUptoRow.holds Try.pinned (OpenSpec.upto fnDiskSpec)

end Rows
end Go.Proofs.Ytpiipnfhinbimab
