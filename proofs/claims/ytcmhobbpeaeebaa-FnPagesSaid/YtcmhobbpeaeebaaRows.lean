/-
  No cell of these rows narrows 'for every input' (looked for: loops, veiled, ifaces, maps, wideKeys, modest, calm, conditions, laid).
  DERIVED. THE GIVEN ROWS OF THIS SEAT. 5 by the template 'for every input the law returns true; each argument reads behind the call as it read before'; 0 by the template 'total and deterministic' (their statements: YtcmhobbpeaeebaaTotals.lean).
  GIVEN WITH THE SEED: the statements are not yours to turn. If you find one false, say at which input.
  Laid BY PROGRAM, IN A SANDBOX (cutbox-rows.mjs): the forced cells as the released guide's own fill.sh prints them over the translation bb086f48cfc0be63… (all of the seat's roots in one cut). By AI agents, Wed Nov 11 2026. No macro, syntax, notation, axiom, sorry.
-/
import Derived.Test.YtcmhobbpeaeebaaChecked
import GoSem.Claim
import GoSem.ClaimJoined
import GoSem.ClaimMapViews
import Derived.JoinedTies
import Derived.KernelRfl
namespace Go.Proofs.Ytcmhobbpeaeebaa
/- THE CELL 'sum', in the pinned program and in every row, IS THE sha256 OF THE DUMP (.gsa) THAT YtcmhobbpeaeebaaProg.lean LOADS. Nothing in Lean hashes anything: it is a label: what it is worth is what the hold of that sum in a sandbox is worth. -/
noncomputable def Try.pinned : Pinned := { name := "ytcmhobbpeaeebaa", sum := "bb086f48cfc0be6353e0f4ba71760622274e95057ea7530011bf7354ed62d88c", checked := Try.checked }
namespace Rows
def none {H : Type} : Left H := { results := [], args := [] }

/-- 'laws.FnTorn': WHATEVER THE INPUT: true; the input reads as it did. -/
def fnTornSpec : ChangeSpec := { name := "fnTorn", fn := fun _ => fun
  | [d1, d2] => { results := [.lit (.bool true)], args := [d1, d2] }
  | _ => none }
def fnTornRow : OpenClaim := { program := "ytcmhobbpeaeebaa", sum := "bb086f48cfc0be6353e0f4ba71760622274e95057ea7530011bf7354ed62d88c", func := "loop.example/s02098/laws.FnTorn", spec := "fnTorn", unfollowed := true, recurses := true, apart := false }
def FnTornSaid : Prop := fnTornRow.holds Try.pinned (OpenSpec.ofChange fnTornSpec)

/-- ITS FALSE NEIGHBOUR: 'it returns false'. Refute it at one input. -/
def fnTornWrong : ChangeSpec := { name := "fnTorn", fn := fun _ => fun
  | [d1, d2] => { results := [.lit (.bool false)], args := [d1, d2] }
  | _ => none }
def FnTornWrongFalsely : Prop := fnTornRow.holds Try.pinned (OpenSpec.ofChange fnTornWrong)

/-- 'laws.FnExactDecodeOld': WHATEVER THE INPUT: true; the input reads as it did. -/
def fnExactDecodeOldSpec : ChangeSpec := { name := "fnExactDecodeOld", fn := fun _ => fun
  | [d] => { results := [.lit (.bool true)], args := [d] }
  | _ => none }
def fnExactDecodeOldRow : OpenClaim := { program := "ytcmhobbpeaeebaa", sum := "bb086f48cfc0be6353e0f4ba71760622274e95057ea7530011bf7354ed62d88c", func := "loop.example/s02098/laws.FnExactDecodeOld", spec := "fnExactDecodeOld", unfollowed := true, recurses := true, apart := false }
def FnExactDecodeOldSaid : Prop := fnExactDecodeOldRow.holds Try.pinned (OpenSpec.ofChange fnExactDecodeOldSpec)

/-- ITS FALSE NEIGHBOUR: 'it returns false'. Refute it at one input. -/
def fnExactDecodeOldWrong : ChangeSpec := { name := "fnExactDecodeOld", fn := fun _ => fun
  | [d] => { results := [.lit (.bool false)], args := [d] }
  | _ => none }
def FnExactDecodeOldWrongFalsely : Prop := fnExactDecodeOldRow.holds Try.pinned (OpenSpec.ofChange fnExactDecodeOldWrong)

/-- 'laws.FnExactEncodePage': WHATEVER THE INPUT: true; the input reads as it did. -/
def fnExactEncodePageSpec : ChangeSpec := { name := "fnExactEncodePage", fn := fun _ => fun
  | [d] => { results := [.lit (.bool true)], args := [d] }
  | _ => none }
def fnExactEncodePageRow : OpenClaim := { program := "ytcmhobbpeaeebaa", sum := "bb086f48cfc0be6353e0f4ba71760622274e95057ea7530011bf7354ed62d88c", func := "loop.example/s02098/laws.FnExactEncodePage", spec := "fnExactEncodePage", unfollowed := true, recurses := true, apart := false }
def FnExactEncodePageSaid : Prop := fnExactEncodePageRow.holds Try.pinned (OpenSpec.ofChange fnExactEncodePageSpec)

/-- ITS FALSE NEIGHBOUR: 'it returns false'. Refute it at one input. -/
def fnExactEncodePageWrong : ChangeSpec := { name := "fnExactEncodePage", fn := fun _ => fun
  | [d] => { results := [.lit (.bool false)], args := [d] }
  | _ => none }
def FnExactEncodePageWrongFalsely : Prop := fnExactEncodePageRow.holds Try.pinned (OpenSpec.ofChange fnExactEncodePageWrong)

/-- 'laws.FnExactDecodePage': WHATEVER THE INPUT: true; the input reads as it did. -/
def fnExactDecodePageSpec : ChangeSpec := { name := "fnExactDecodePage", fn := fun _ => fun
  | [d] => { results := [.lit (.bool true)], args := [d] }
  | _ => none }
def fnExactDecodePageRow : OpenClaim := { program := "ytcmhobbpeaeebaa", sum := "bb086f48cfc0be6353e0f4ba71760622274e95057ea7530011bf7354ed62d88c", func := "loop.example/s02098/laws.FnExactDecodePage", spec := "fnExactDecodePage", unfollowed := true, recurses := true, apart := false }
def FnExactDecodePageSaid : Prop := fnExactDecodePageRow.holds Try.pinned (OpenSpec.ofChange fnExactDecodePageSpec)

/-- ITS FALSE NEIGHBOUR: 'it returns false'. Refute it at one input. -/
def fnExactDecodePageWrong : ChangeSpec := { name := "fnExactDecodePage", fn := fun _ => fun
  | [d] => { results := [.lit (.bool false)], args := [d] }
  | _ => none }
def FnExactDecodePageWrongFalsely : Prop := fnExactDecodePageRow.holds Try.pinned (OpenSpec.ofChange fnExactDecodePageWrong)

/-- 'laws.FnPages': WHATEVER THE INPUT: true; the input reads as it did. -/
def fnPagesSpec : ChangeSpec := { name := "fnPages", fn := fun _ => fun
  | [d1, d2] => { results := [.lit (.bool true)], args := [d1, d2] }
  | _ => none }
def fnPagesRow : OpenClaim := { program := "ytcmhobbpeaeebaa", sum := "bb086f48cfc0be6353e0f4ba71760622274e95057ea7530011bf7354ed62d88c", func := "loop.example/s02098/laws.FnPages", spec := "fnPages", unfollowed := true, recurses := true, apart := false }
def FnPagesSaid : Prop := fnPagesRow.holds Try.pinned (OpenSpec.ofChange fnPagesSpec)

/-- ITS FALSE NEIGHBOUR: 'it returns false'. Refute it at one input. -/
def fnPagesWrong : ChangeSpec := { name := "fnPages", fn := fun _ => fun
  | [d1, d2] => { results := [.lit (.bool false)], args := [d1, d2] }
  | _ => none }
def FnPagesWrongFalsely : Prop := fnPagesRow.holds Try.pinned (OpenSpec.ofChange fnPagesWrong)

/- THE SECOND FORM. 'bulk': how many values and letters a reading holds, each counted each time it is reached (what is shared counts as often as it is met; a slice's spare places count too). A statement '..UptoSaid' is the law's where the arguments, and the package variables that the reading takes, are together of bulk at most 1048576: NARROWER than '..Said'. Prove '..Said' where nothing that the law and all that it calls make is longer than what came in: it says more and counts as full. Else prove '..UptoSaid'. A law counts once. -/
mutual
def uptoBulk {H : Type} : DataW H → Nat
  | .lit (.string bytes) => bytes.length + 1
  | .lit _ => 1
  | .nil => 1
  | .ptr d => uptoBulk d + 1
  | .slice elems spare => uptoBulkAll elems + uptoBulkAll spare + 1
  | .agg parts => uptoBulkAll parts + 1
  | .iface _ d => uptoBulk d + 1
  | .map entries => uptoBulkEntries entries + 1
  | .held _ => 1
def uptoBulkAll {H : Type} : List (DataW H) → Nat
  | [] => 0
  | d :: r => uptoBulk d + uptoBulkAll r
def uptoBulkEntries {H : Type} : List (Lit × DataW H) → Nat
  | [] => 0
  | x :: r => uptoBulkEntry x + uptoBulkEntries r
def uptoBulkEntry {H : Type} : Lit × DataW H → Nat
  | (.string bytes, d) => bytes.length + uptoBulk d + 1
  | (_, d) => uptoBulk d + 1
 end
def uptoSmall : (H : Type) → List (DataW H) → Bool := fun _ ds => decide (uptoBulkAll ds ≤ 1048576)
def OpenSpec.upto (s : _root_.Go.ChangeSpec) : _root_.Go.OpenSpec := { _root_.Go.OpenSpec.ofChange s with cond := some uptoSmall }

/-- 'laws.FnTorn', WHERE WHAT IT READS IS OF BULK AT MOST 1048576: true; the input reads as it did. -/
def fnTornUptoRow : OpenClaim := { program := "ytcmhobbpeaeebaa", sum := "bb086f48cfc0be6353e0f4ba71760622274e95057ea7530011bf7354ed62d88c", func := "loop.example/s02098/laws.FnTorn", spec := "fnTorn", unfollowed := true, recurses := true, apart := false, narrowed := true }
def FnTornUptoSaid : Prop := fnTornUptoRow.holds Try.pinned (OpenSpec.upto fnTornSpec)

/-- 'laws.FnExactDecodeOld', WHERE WHAT IT READS IS OF BULK AT MOST 1048576: true; the input reads as it did. -/
def fnExactDecodeOldUptoRow : OpenClaim := { program := "ytcmhobbpeaeebaa", sum := "bb086f48cfc0be6353e0f4ba71760622274e95057ea7530011bf7354ed62d88c", func := "loop.example/s02098/laws.FnExactDecodeOld", spec := "fnExactDecodeOld", unfollowed := true, recurses := true, apart := false, narrowed := true }
def FnExactDecodeOldUptoSaid : Prop := fnExactDecodeOldUptoRow.holds Try.pinned (OpenSpec.upto fnExactDecodeOldSpec)

/-- 'laws.FnExactEncodePage', WHERE WHAT IT READS IS OF BULK AT MOST 1048576: true; the input reads as it did. -/
def fnExactEncodePageUptoRow : OpenClaim := { program := "ytcmhobbpeaeebaa", sum := "bb086f48cfc0be6353e0f4ba71760622274e95057ea7530011bf7354ed62d88c", func := "loop.example/s02098/laws.FnExactEncodePage", spec := "fnExactEncodePage", unfollowed := true, recurses := true, apart := false, narrowed := true }
def FnExactEncodePageUptoSaid : Prop := fnExactEncodePageUptoRow.holds Try.pinned (OpenSpec.upto fnExactEncodePageSpec)

/-- 'laws.FnExactDecodePage', WHERE WHAT IT READS IS OF BULK AT MOST 1048576: true; the input reads as it did. -/
def fnExactDecodePageUptoRow : OpenClaim := { program := "ytcmhobbpeaeebaa", sum := "bb086f48cfc0be6353e0f4ba71760622274e95057ea7530011bf7354ed62d88c", func := "loop.example/s02098/laws.FnExactDecodePage", spec := "fnExactDecodePage", unfollowed := true, recurses := true, apart := false, narrowed := true }
def FnExactDecodePageUptoSaid : Prop := fnExactDecodePageUptoRow.holds Try.pinned (OpenSpec.upto fnExactDecodePageSpec)

/-- 'laws.FnPages', WHERE WHAT IT READS IS OF BULK AT MOST 1048576: true; the input reads as it did. -/
def fnPagesUptoRow : OpenClaim := { program := "ytcmhobbpeaeebaa", sum := "bb086f48cfc0be6353e0f4ba71760622274e95057ea7530011bf7354ed62d88c", func := "loop.example/s02098/laws.FnPages", spec := "fnPages", unfollowed := true, recurses := true, apart := false, narrowed := true }
def FnPagesUptoSaid : Prop := fnPagesUptoRow.holds Try.pinned (OpenSpec.upto fnPagesSpec)

end Rows
end Go.Proofs.Ytcmhobbpeaeebaa
