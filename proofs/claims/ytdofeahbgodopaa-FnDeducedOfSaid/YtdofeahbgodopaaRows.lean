/-
  No cell of these rows narrows 'for every input' (looked for: loops, veiled, ifaces, maps, wideKeys, modest, calm, conditions, laid).
  DERIVED. THE GIVEN ROWS OF THIS SEAT. 10 by the template 'for every input the law returns true; each argument reads behind the call as it read before'; 0 by the template 'total and deterministic' (their statements: YtdofeahbgodopaaTotals.lean).
  GIVEN WITH THE SEED: the statements are not yours to turn. If you find one false, say at which input.
  Laid BY PROGRAM, IN A SANDBOX (cutbox-rows.mjs): the forced cells as the released guide's own fill.sh prints them over the translation 9140ae976b7db794… (all of the seat's roots in one cut). By AI agents, Wed Nov 11 2026. No macro, syntax, notation, axiom, sorry.
-/
import Derived.Test.YtdofeahbgodopaaChecked
import GoSem.Claim
import GoSem.ClaimJoined
import GoSem.ClaimMapViews
import Derived.JoinedTies
import Derived.KernelRfl
namespace Go.Proofs.Ytdofeahbgodopaa
/- THE CELL 'sum', in the pinned program and in every row, IS THE sha256 OF THE DUMP (.gsa) THAT YtdofeahbgodopaaProg.lean LOADS. Nothing in Lean hashes anything: it is a label: what it is worth is what the hold of that sum in a sandbox is worth. -/
noncomputable def Try.pinned : Pinned := { name := "ytdofeahbgodopaa", sum := "9140ae976b7db79464898f63e1e4e28832b9df1b2b82812f07896741a9e53663", checked := Try.checked }
namespace Rows
def none {H : Type} : Left H := { results := [], args := [] }

/-- 'laws.FnPremisesOk': WHATEVER THE INPUT: true; the input reads as it did. -/
def fnPremisesOkSpec : ChangeSpec := { name := "fnPremisesOk", fn := fun _ => fun
  | [d] => { results := [.lit (.bool true)], args := [d] }
  | _ => none }
def fnPremisesOkRow : OpenClaim := { program := "ytdofeahbgodopaa", sum := "9140ae976b7db79464898f63e1e4e28832b9df1b2b82812f07896741a9e53663", func := "loop.example/manyvalues/laws.FnPremisesOk", spec := "fnPremisesOk", unfollowed := true, recurses := true, apart := false }
def FnPremisesOkSaid : Prop := fnPremisesOkRow.holds Try.pinned (OpenSpec.ofChange fnPremisesOkSpec)

/-- ITS FALSE NEIGHBOUR: 'it returns false'. Refute it at one input. -/
def fnPremisesOkWrong : ChangeSpec := { name := "fnPremisesOk", fn := fun _ => fun
  | [d] => { results := [.lit (.bool false)], args := [d] }
  | _ => none }
def FnPremisesOkWrongFalsely : Prop := fnPremisesOkRow.holds Try.pinned (OpenSpec.ofChange fnPremisesOkWrong)

/-- 'laws.FnFollowsFrom': WHATEVER THE INPUT: true; the input reads as it did. -/
def fnFollowsFromSpec : ChangeSpec := { name := "fnFollowsFrom", fn := fun _ => fun
  | [d] => { results := [.lit (.bool true)], args := [d] }
  | _ => none }
def fnFollowsFromRow : OpenClaim := { program := "ytdofeahbgodopaa", sum := "9140ae976b7db79464898f63e1e4e28832b9df1b2b82812f07896741a9e53663", func := "loop.example/manyvalues/laws.FnFollowsFrom", spec := "fnFollowsFrom", unfollowed := true, recurses := true, apart := false }
def FnFollowsFromSaid : Prop := fnFollowsFromRow.holds Try.pinned (OpenSpec.ofChange fnFollowsFromSpec)

/-- ITS FALSE NEIGHBOUR: 'it returns false'. Refute it at one input. -/
def fnFollowsFromWrong : ChangeSpec := { name := "fnFollowsFrom", fn := fun _ => fun
  | [d] => { results := [.lit (.bool false)], args := [d] }
  | _ => none }
def FnFollowsFromWrongFalsely : Prop := fnFollowsFromRow.holds Try.pinned (OpenSpec.ofChange fnFollowsFromWrong)

/-- 'laws.FnCountTrue': WHATEVER THE INPUT: true; the input reads as it did. -/
def fnCountTrueSpec : ChangeSpec := { name := "fnCountTrue", fn := fun _ => fun
  | [d] => { results := [.lit (.bool true)], args := [d] }
  | _ => none }
def fnCountTrueRow : OpenClaim := { program := "ytdofeahbgodopaa", sum := "9140ae976b7db79464898f63e1e4e28832b9df1b2b82812f07896741a9e53663", func := "loop.example/manyvalues/laws.FnCountTrue", spec := "fnCountTrue", unfollowed := true, recurses := true, apart := false }
def FnCountTrueSaid : Prop := fnCountTrueRow.holds Try.pinned (OpenSpec.ofChange fnCountTrueSpec)

/-- ITS FALSE NEIGHBOUR: 'it returns false'. Refute it at one input. -/
def fnCountTrueWrong : ChangeSpec := { name := "fnCountTrue", fn := fun _ => fun
  | [d] => { results := [.lit (.bool false)], args := [d] }
  | _ => none }
def FnCountTrueWrongFalsely : Prop := fnCountTrueRow.holds Try.pinned (OpenSpec.ofChange fnCountTrueWrong)

/-- 'laws.FnPowerText': WHATEVER THE INPUT: true; the input reads as it did. -/
def fnPowerTextSpec : ChangeSpec := { name := "fnPowerText", fn := fun _ => fun
  | [d] => { results := [.lit (.bool true)], args := [d] }
  | _ => none }
def fnPowerTextRow : OpenClaim := { program := "ytdofeahbgodopaa", sum := "9140ae976b7db79464898f63e1e4e28832b9df1b2b82812f07896741a9e53663", func := "loop.example/manyvalues/laws.FnPowerText", spec := "fnPowerText", unfollowed := true, recurses := true, apart := false }
def FnPowerTextSaid : Prop := fnPowerTextRow.holds Try.pinned (OpenSpec.ofChange fnPowerTextSpec)

/-- ITS FALSE NEIGHBOUR: 'it returns false'. Refute it at one input. -/
def fnPowerTextWrong : ChangeSpec := { name := "fnPowerText", fn := fun _ => fun
  | [d] => { results := [.lit (.bool false)], args := [d] }
  | _ => none }
def FnPowerTextWrongFalsely : Prop := fnPowerTextRow.holds Try.pinned (OpenSpec.ofChange fnPowerTextWrong)

/-- 'laws.FnDeducedOf': WHATEVER THE INPUT: true; the input reads as it did. -/
def fnDeducedOfSpec : ChangeSpec := { name := "fnDeducedOf", fn := fun _ => fun
  | [d1, d2] => { results := [.lit (.bool true)], args := [d1, d2] }
  | _ => none }
def fnDeducedOfRow : OpenClaim := { program := "ytdofeahbgodopaa", sum := "9140ae976b7db79464898f63e1e4e28832b9df1b2b82812f07896741a9e53663", func := "loop.example/manyvalues/laws.FnDeducedOf", spec := "fnDeducedOf", unfollowed := true, recurses := true, apart := false }
def FnDeducedOfSaid : Prop := fnDeducedOfRow.holds Try.pinned (OpenSpec.ofChange fnDeducedOfSpec)

/-- ITS FALSE NEIGHBOUR: 'it returns false'. Refute it at one input. -/
def fnDeducedOfWrong : ChangeSpec := { name := "fnDeducedOf", fn := fun _ => fun
  | [d1, d2] => { results := [.lit (.bool false)], args := [d1, d2] }
  | _ => none }
def FnDeducedOfWrongFalsely : Prop := fnDeducedOfRow.holds Try.pinned (OpenSpec.ofChange fnDeducedOfWrong)

/-- 'laws.FnExactPremisesOk': WHATEVER THE INPUT: true; the input reads as it did. -/
def fnExactPremisesOkSpec : ChangeSpec := { name := "fnExactPremisesOk", fn := fun _ => fun
  | [d] => { results := [.lit (.bool true)], args := [d] }
  | _ => none }
def fnExactPremisesOkRow : OpenClaim := { program := "ytdofeahbgodopaa", sum := "9140ae976b7db79464898f63e1e4e28832b9df1b2b82812f07896741a9e53663", func := "loop.example/manyvalues/laws.FnExactPremisesOk", spec := "fnExactPremisesOk", unfollowed := true, recurses := true, apart := false }
def FnExactPremisesOkSaid : Prop := fnExactPremisesOkRow.holds Try.pinned (OpenSpec.ofChange fnExactPremisesOkSpec)

/-- ITS FALSE NEIGHBOUR: 'it returns false'. Refute it at one input. -/
def fnExactPremisesOkWrong : ChangeSpec := { name := "fnExactPremisesOk", fn := fun _ => fun
  | [d] => { results := [.lit (.bool false)], args := [d] }
  | _ => none }
def FnExactPremisesOkWrongFalsely : Prop := fnExactPremisesOkRow.holds Try.pinned (OpenSpec.ofChange fnExactPremisesOkWrong)

/-- 'laws.FnExactFollowsFrom': WHATEVER THE INPUT: true; the input reads as it did. -/
def fnExactFollowsFromSpec : ChangeSpec := { name := "fnExactFollowsFrom", fn := fun _ => fun
  | [d1, d2, d3] => { results := [.lit (.bool true)], args := [d1, d2, d3] }
  | _ => none }
def fnExactFollowsFromRow : OpenClaim := { program := "ytdofeahbgodopaa", sum := "9140ae976b7db79464898f63e1e4e28832b9df1b2b82812f07896741a9e53663", func := "loop.example/manyvalues/laws.FnExactFollowsFrom", spec := "fnExactFollowsFrom", unfollowed := true, recurses := true, apart := false }
def FnExactFollowsFromSaid : Prop := fnExactFollowsFromRow.holds Try.pinned (OpenSpec.ofChange fnExactFollowsFromSpec)

/-- ITS FALSE NEIGHBOUR: 'it returns false'. Refute it at one input. -/
def fnExactFollowsFromWrong : ChangeSpec := { name := "fnExactFollowsFrom", fn := fun _ => fun
  | [d1, d2, d3] => { results := [.lit (.bool false)], args := [d1, d2, d3] }
  | _ => none }
def FnExactFollowsFromWrongFalsely : Prop := fnExactFollowsFromRow.holds Try.pinned (OpenSpec.ofChange fnExactFollowsFromWrong)

/-- 'laws.FnExactCountTrue': WHATEVER THE INPUT: true; the input reads as it did. -/
def fnExactCountTrueSpec : ChangeSpec := { name := "fnExactCountTrue", fn := fun _ => fun
  | [d1, d2] => { results := [.lit (.bool true)], args := [d1, d2] }
  | _ => none }
def fnExactCountTrueRow : OpenClaim := { program := "ytdofeahbgodopaa", sum := "9140ae976b7db79464898f63e1e4e28832b9df1b2b82812f07896741a9e53663", func := "loop.example/manyvalues/laws.FnExactCountTrue", spec := "fnExactCountTrue", unfollowed := true, recurses := true, apart := false }
def FnExactCountTrueSaid : Prop := fnExactCountTrueRow.holds Try.pinned (OpenSpec.ofChange fnExactCountTrueSpec)

/-- ITS FALSE NEIGHBOUR: 'it returns false'. Refute it at one input. -/
def fnExactCountTrueWrong : ChangeSpec := { name := "fnExactCountTrue", fn := fun _ => fun
  | [d1, d2] => { results := [.lit (.bool false)], args := [d1, d2] }
  | _ => none }
def FnExactCountTrueWrongFalsely : Prop := fnExactCountTrueRow.holds Try.pinned (OpenSpec.ofChange fnExactCountTrueWrong)

/-- 'laws.FnExactPowerText': WHATEVER THE INPUT: true; the input reads as it did. -/
def fnExactPowerTextSpec : ChangeSpec := { name := "fnExactPowerText", fn := fun _ => fun
  | [d1, d2] => { results := [.lit (.bool true)], args := [d1, d2] }
  | _ => none }
def fnExactPowerTextRow : OpenClaim := { program := "ytdofeahbgodopaa", sum := "9140ae976b7db79464898f63e1e4e28832b9df1b2b82812f07896741a9e53663", func := "loop.example/manyvalues/laws.FnExactPowerText", spec := "fnExactPowerText", recurses := true, apart := false }
def FnExactPowerTextSaid : Prop := fnExactPowerTextRow.holds Try.pinned (OpenSpec.ofChange fnExactPowerTextSpec)

/-- ITS FALSE NEIGHBOUR: 'it returns false'. Refute it at one input. -/
def fnExactPowerTextWrong : ChangeSpec := { name := "fnExactPowerText", fn := fun _ => fun
  | [d1, d2] => { results := [.lit (.bool false)], args := [d1, d2] }
  | _ => none }
def FnExactPowerTextWrongFalsely : Prop := fnExactPowerTextRow.holds Try.pinned (OpenSpec.ofChange fnExactPowerTextWrong)

/-- 'laws.FnExactDeducedOf': WHATEVER THE INPUT: true; the input reads as it did. -/
def fnExactDeducedOfSpec : ChangeSpec := { name := "fnExactDeducedOf", fn := fun _ => fun
  | [d1, d2, d3] => { results := [.lit (.bool true)], args := [d1, d2, d3] }
  | _ => none }
def fnExactDeducedOfRow : OpenClaim := { program := "ytdofeahbgodopaa", sum := "9140ae976b7db79464898f63e1e4e28832b9df1b2b82812f07896741a9e53663", func := "loop.example/manyvalues/laws.FnExactDeducedOf", spec := "fnExactDeducedOf", recurses := true, apart := false }
def FnExactDeducedOfSaid : Prop := fnExactDeducedOfRow.holds Try.pinned (OpenSpec.ofChange fnExactDeducedOfSpec)

/-- ITS FALSE NEIGHBOUR: 'it returns false'. Refute it at one input. -/
def fnExactDeducedOfWrong : ChangeSpec := { name := "fnExactDeducedOf", fn := fun _ => fun
  | [d1, d2, d3] => { results := [.lit (.bool false)], args := [d1, d2, d3] }
  | _ => none }
def FnExactDeducedOfWrongFalsely : Prop := fnExactDeducedOfRow.holds Try.pinned (OpenSpec.ofChange fnExactDeducedOfWrong)

/- THE SECOND FORM. 'bulk': how many values and letters a reading holds, each counted each time it is reached (what is shared counts as often as it is met; a slice's spare places count too). A statement '..UptoSaid' is the law's where the arguments, and the package variables that the reading takes, are together of bulk at most 1048576: NARROWER than '..Said'. Prove '..Said' where nothing that the law and all that it calls make is longer than what came in: it says more and counts as full. Else prove '..UptoSaid'. A law counts once. -/
mutual
def uptoBulk {H : Type} : DataW H → Nat
  | .lit (.string bytes) => bytes.length + 1
  | .lit _ => 1
  | .nil => 1
  | .ptr d => uptoBulk d + 1
  | .slice elems spare => uptoBulkAll elems + uptoBulkAll spare + 1
  | .agg parts => uptoBulkAll parts + 1
  | .iface _ d => uptoBulk d + 1
  | .map entries => uptoBulkEntries entries + 1
  | .held _ => 1
def uptoBulkAll {H : Type} : List (DataW H) → Nat
  | [] => 0
  | d :: r => uptoBulk d + uptoBulkAll r
def uptoBulkEntries {H : Type} : List (Lit × DataW H) → Nat
  | [] => 0
  | x :: r => uptoBulkEntry x + uptoBulkEntries r
def uptoBulkEntry {H : Type} : Lit × DataW H → Nat
  | (.string bytes, d) => bytes.length + uptoBulk d + 1
  | (_, d) => uptoBulk d + 1
 end
def uptoSmall : (H : Type) → List (DataW H) → Bool := fun _ ds => decide (uptoBulkAll ds ≤ 1048576)
def OpenSpec.upto (s : _root_.Go.ChangeSpec) : _root_.Go.OpenSpec := { _root_.Go.OpenSpec.ofChange s with cond := some uptoSmall }

/-- 'laws.FnPremisesOk', WHERE WHAT IT READS IS OF BULK AT MOST 1048576: true; the input reads as it did. -/
def fnPremisesOkUptoRow : OpenClaim := { program := "ytdofeahbgodopaa", sum := "9140ae976b7db79464898f63e1e4e28832b9df1b2b82812f07896741a9e53663", func := "loop.example/manyvalues/laws.FnPremisesOk", spec := "fnPremisesOk", unfollowed := true, recurses := true, apart := false, narrowed := true }
def FnPremisesOkUptoSaid : Prop := fnPremisesOkUptoRow.holds Try.pinned (OpenSpec.upto fnPremisesOkSpec)

/-- 'laws.FnFollowsFrom', WHERE WHAT IT READS IS OF BULK AT MOST 1048576: true; the input reads as it did. -/
def fnFollowsFromUptoRow : OpenClaim := { program := "ytdofeahbgodopaa", sum := "9140ae976b7db79464898f63e1e4e28832b9df1b2b82812f07896741a9e53663", func := "loop.example/manyvalues/laws.FnFollowsFrom", spec := "fnFollowsFrom", unfollowed := true, recurses := true, apart := false, narrowed := true }
def FnFollowsFromUptoSaid : Prop := fnFollowsFromUptoRow.holds Try.pinned (OpenSpec.upto fnFollowsFromSpec)

/-- 'laws.FnCountTrue', WHERE WHAT IT READS IS OF BULK AT MOST 1048576: true; the input reads as it did. -/
def fnCountTrueUptoRow : OpenClaim := { program := "ytdofeahbgodopaa", sum := "9140ae976b7db79464898f63e1e4e28832b9df1b2b82812f07896741a9e53663", func := "loop.example/manyvalues/laws.FnCountTrue", spec := "fnCountTrue", unfollowed := true, recurses := true, apart := false, narrowed := true }
def FnCountTrueUptoSaid : Prop := fnCountTrueUptoRow.holds Try.pinned (OpenSpec.upto fnCountTrueSpec)

/-- 'laws.FnPowerText', WHERE WHAT IT READS IS OF BULK AT MOST 1048576: true; the input reads as it did. -/
def fnPowerTextUptoRow : OpenClaim := { program := "ytdofeahbgodopaa", sum := "9140ae976b7db79464898f63e1e4e28832b9df1b2b82812f07896741a9e53663", func := "loop.example/manyvalues/laws.FnPowerText", spec := "fnPowerText", unfollowed := true, recurses := true, apart := false, narrowed := true }
def FnPowerTextUptoSaid : Prop := fnPowerTextUptoRow.holds Try.pinned (OpenSpec.upto fnPowerTextSpec)

/-- 'laws.FnDeducedOf', WHERE WHAT IT READS IS OF BULK AT MOST 1048576: true; the input reads as it did. -/
def fnDeducedOfUptoRow : OpenClaim := { program := "ytdofeahbgodopaa", sum := "9140ae976b7db79464898f63e1e4e28832b9df1b2b82812f07896741a9e53663", func := "loop.example/manyvalues/laws.FnDeducedOf", spec := "fnDeducedOf", unfollowed := true, recurses := true, apart := false, narrowed := true }
def FnDeducedOfUptoSaid : Prop := fnDeducedOfUptoRow.holds Try.pinned (OpenSpec.upto fnDeducedOfSpec)

/-- 'laws.FnExactPremisesOk', WHERE WHAT IT READS IS OF BULK AT MOST 1048576: true; the input reads as it did. -/
def fnExactPremisesOkUptoRow : OpenClaim := { program := "ytdofeahbgodopaa", sum := "9140ae976b7db79464898f63e1e4e28832b9df1b2b82812f07896741a9e53663", func := "loop.example/manyvalues/laws.FnExactPremisesOk", spec := "fnExactPremisesOk", unfollowed := true, recurses := true, apart := false, narrowed := true }
def FnExactPremisesOkUptoSaid : Prop := fnExactPremisesOkUptoRow.holds Try.pinned (OpenSpec.upto fnExactPremisesOkSpec)

/-- 'laws.FnExactFollowsFrom', WHERE WHAT IT READS IS OF BULK AT MOST 1048576: true; the input reads as it did. -/
def fnExactFollowsFromUptoRow : OpenClaim := { program := "ytdofeahbgodopaa", sum := "9140ae976b7db79464898f63e1e4e28832b9df1b2b82812f07896741a9e53663", func := "loop.example/manyvalues/laws.FnExactFollowsFrom", spec := "fnExactFollowsFrom", unfollowed := true, recurses := true, apart := false, narrowed := true }
def FnExactFollowsFromUptoSaid : Prop := fnExactFollowsFromUptoRow.holds Try.pinned (OpenSpec.upto fnExactFollowsFromSpec)

/-- 'laws.FnExactCountTrue', WHERE WHAT IT READS IS OF BULK AT MOST 1048576: true; the input reads as it did. -/
def fnExactCountTrueUptoRow : OpenClaim := { program := "ytdofeahbgodopaa", sum := "9140ae976b7db79464898f63e1e4e28832b9df1b2b82812f07896741a9e53663", func := "loop.example/manyvalues/laws.FnExactCountTrue", spec := "fnExactCountTrue", unfollowed := true, recurses := true, apart := false, narrowed := true }
def FnExactCountTrueUptoSaid : Prop := fnExactCountTrueUptoRow.holds Try.pinned (OpenSpec.upto fnExactCountTrueSpec)

/-- 'laws.FnExactPowerText', WHERE WHAT IT READS IS OF BULK AT MOST 1048576: true; the input reads as it did. -/
def fnExactPowerTextUptoRow : OpenClaim := { program := "ytdofeahbgodopaa", sum := "9140ae976b7db79464898f63e1e4e28832b9df1b2b82812f07896741a9e53663", func := "loop.example/manyvalues/laws.FnExactPowerText", spec := "fnExactPowerText", recurses := true, apart := false, narrowed := true }
def FnExactPowerTextUptoSaid : Prop := fnExactPowerTextUptoRow.holds Try.pinned (OpenSpec.upto fnExactPowerTextSpec)

/-- 'laws.FnExactDeducedOf', WHERE WHAT IT READS IS OF BULK AT MOST 1048576: true; the input reads as it did. -/
def fnExactDeducedOfUptoRow : OpenClaim := { program := "ytdofeahbgodopaa", sum := "9140ae976b7db79464898f63e1e4e28832b9df1b2b82812f07896741a9e53663", func := "loop.example/manyvalues/laws.FnExactDeducedOf", spec := "fnExactDeducedOf", recurses := true, apart := false, narrowed := true }
def FnExactDeducedOfUptoSaid : Prop := fnExactDeducedOfUptoRow.holds Try.pinned (OpenSpec.upto fnExactDeducedOfSpec)

end Rows
end Go.Proofs.Ytdofeahbgodopaa
