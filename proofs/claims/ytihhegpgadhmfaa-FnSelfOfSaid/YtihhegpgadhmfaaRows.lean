/-
  No cell of these rows narrows 'for every input' (looked for: loops, veiled, ifaces, maps, wideKeys, modest, calm, conditions, laid).
  DERIVED. THE GIVEN ROWS OF THIS SEAT. 10 by the template 'for every input the law returns true; each argument reads behind the call as it read before'; 0 by the template 'total and deterministic' (their statements: YtihhegpgadhmfaaTotals.lean).
  GIVEN WITH THE SEED: the statements are not yours to turn. If you find one false, say at which input.
  Laid BY PROGRAM, IN A SANDBOX (cutbox-rows.mjs): the forced cells as the released guide's own fill.sh prints them over the translation 196ff22bd89f45be… (all of the seat's roots in one cut). By AI agents, Wed Nov 11 2026. No macro, syntax, notation, axiom, sorry.
-/
import Derived.Test.YtihhegpgadhmfaaChecked
import GoSem.Claim
import GoSem.ClaimJoined
import GoSem.ClaimMapViews
import Derived.JoinedTies
import Derived.KernelRfl
namespace Go.Proofs.Ytihhegpgadhmfaa
/- THE CELL 'sum', in the pinned program and in every row, IS THE sha256 OF THE DUMP (.gsa) THAT YtihhegpgadhmfaaProg.lean LOADS. Nothing in Lean hashes anything: it is a label: what it is worth is what the hold of that sum in a sandbox is worth. -/
noncomputable def Try.pinned : Pinned := { name := "ytihhegpgadhmfaa", sum := "196ff22bd89f45bedb82119196e05d7382fa3afcc038bfb79a224361676a4e55", checked := Try.checked }
namespace Rows
def none {H : Type} : Left H := { results := [], args := [] }

/-- 'laws.FnTogetherBy': WHATEVER THE INPUT: true; the input reads as it did. -/
def fnTogetherBySpec : ChangeSpec := { name := "fnTogetherBy", fn := fun _ => fun
  | [d] => { results := [.lit (.bool true)], args := [d] }
  | _ => none }
def fnTogetherByRow : OpenClaim := { program := "ytihhegpgadhmfaa", sum := "196ff22bd89f45bedb82119196e05d7382fa3afcc038bfb79a224361676a4e55", func := "loop.example/manyvalues/laws.FnTogetherBy", spec := "fnTogetherBy", unfollowed := true, recurses := true, apart := false }
def FnTogetherBySaid : Prop := fnTogetherByRow.holds Try.pinned (OpenSpec.ofChange fnTogetherBySpec)

/-- ITS FALSE NEIGHBOUR: 'it returns false'. Refute it at one input. -/
def fnTogetherByWrong : ChangeSpec := { name := "fnTogetherBy", fn := fun _ => fun
  | [d] => { results := [.lit (.bool false)], args := [d] }
  | _ => none }
def FnTogetherByWrongFalsely : Prop := fnTogetherByRow.holds Try.pinned (OpenSpec.ofChange fnTogetherByWrong)

/-- 'laws.FnFollowsBy': WHATEVER THE INPUT: true; the input reads as it did. -/
def fnFollowsBySpec : ChangeSpec := { name := "fnFollowsBy", fn := fun _ => fun
  | [d] => { results := [.lit (.bool true)], args := [d] }
  | _ => none }
def fnFollowsByRow : OpenClaim := { program := "ytihhegpgadhmfaa", sum := "196ff22bd89f45bedb82119196e05d7382fa3afcc038bfb79a224361676a4e55", func := "loop.example/manyvalues/laws.FnFollowsBy", spec := "fnFollowsBy", unfollowed := true, recurses := true, apart := false }
def FnFollowsBySaid : Prop := fnFollowsByRow.holds Try.pinned (OpenSpec.ofChange fnFollowsBySpec)

/-- ITS FALSE NEIGHBOUR: 'it returns false'. Refute it at one input. -/
def fnFollowsByWrong : ChangeSpec := { name := "fnFollowsBy", fn := fun _ => fun
  | [d] => { results := [.lit (.bool false)], args := [d] }
  | _ => none }
def FnFollowsByWrongFalsely : Prop := fnFollowsByRow.holds Try.pinned (OpenSpec.ofChange fnFollowsByWrong)

/-- 'laws.FnNotBy': WHATEVER THE INPUT: true; the input reads as it did. -/
def fnNotBySpec : ChangeSpec := { name := "fnNotBy", fn := fun _ => fun
  | [d] => { results := [.lit (.bool true)], args := [d] }
  | _ => none }
def fnNotByRow : OpenClaim := { program := "ytihhegpgadhmfaa", sum := "196ff22bd89f45bedb82119196e05d7382fa3afcc038bfb79a224361676a4e55", func := "loop.example/manyvalues/laws.FnNotBy", spec := "fnNotBy", unfollowed := true, recurses := true, apart := false }
def FnNotBySaid : Prop := fnNotByRow.holds Try.pinned (OpenSpec.ofChange fnNotBySpec)

/-- ITS FALSE NEIGHBOUR: 'it returns false'. Refute it at one input. -/
def fnNotByWrong : ChangeSpec := { name := "fnNotBy", fn := fun _ => fun
  | [d] => { results := [.lit (.bool false)], args := [d] }
  | _ => none }
def FnNotByWrongFalsely : Prop := fnNotByRow.holds Try.pinned (OpenSpec.ofChange fnNotByWrong)

/-- 'laws.FnDivisibleOk': WHATEVER THE INPUT: true; the input reads as it did. -/
def fnDivisibleOkSpec : ChangeSpec := { name := "fnDivisibleOk", fn := fun _ => fun
  | [d] => { results := [.lit (.bool true)], args := [d] }
  | _ => none }
def fnDivisibleOkRow : OpenClaim := { program := "ytihhegpgadhmfaa", sum := "196ff22bd89f45bedb82119196e05d7382fa3afcc038bfb79a224361676a4e55", func := "loop.example/manyvalues/laws.FnDivisibleOk", spec := "fnDivisibleOk", unfollowed := true, recurses := true, apart := false }
def FnDivisibleOkSaid : Prop := fnDivisibleOkRow.holds Try.pinned (OpenSpec.ofChange fnDivisibleOkSpec)

/-- ITS FALSE NEIGHBOUR: 'it returns false'. Refute it at one input. -/
def fnDivisibleOkWrong : ChangeSpec := { name := "fnDivisibleOk", fn := fun _ => fun
  | [d] => { results := [.lit (.bool false)], args := [d] }
  | _ => none }
def FnDivisibleOkWrongFalsely : Prop := fnDivisibleOkRow.holds Try.pinned (OpenSpec.ofChange fnDivisibleOkWrong)

/-- 'laws.FnSelfOf': WHATEVER THE INPUT: true; the input reads as it did. -/
def fnSelfOfSpec : ChangeSpec := { name := "fnSelfOf", fn := fun _ => fun
  | [d] => { results := [.lit (.bool true)], args := [d] }
  | _ => none }
def fnSelfOfRow : OpenClaim := { program := "ytihhegpgadhmfaa", sum := "196ff22bd89f45bedb82119196e05d7382fa3afcc038bfb79a224361676a4e55", func := "loop.example/manyvalues/laws.FnSelfOf", spec := "fnSelfOf", unfollowed := true, recurses := true, apart := false }
def FnSelfOfSaid : Prop := fnSelfOfRow.holds Try.pinned (OpenSpec.ofChange fnSelfOfSpec)

/-- ITS FALSE NEIGHBOUR: 'it returns false'. Refute it at one input. -/
def fnSelfOfWrong : ChangeSpec := { name := "fnSelfOf", fn := fun _ => fun
  | [d] => { results := [.lit (.bool false)], args := [d] }
  | _ => none }
def FnSelfOfWrongFalsely : Prop := fnSelfOfRow.holds Try.pinned (OpenSpec.ofChange fnSelfOfWrong)

/-- 'laws.FnExactTogetherBy': WHATEVER THE INPUT: true; the input reads as it did. -/
def fnExactTogetherBySpec : ChangeSpec := { name := "fnExactTogetherBy", fn := fun _ => fun
  | [d1, d2, d3, d4] => { results := [.lit (.bool true)], args := [d1, d2, d3, d4] }
  | _ => none }
def fnExactTogetherByRow : OpenClaim := { program := "ytihhegpgadhmfaa", sum := "196ff22bd89f45bedb82119196e05d7382fa3afcc038bfb79a224361676a4e55", func := "loop.example/manyvalues/laws.FnExactTogetherBy", spec := "fnExactTogetherBy", unfollowed := true, recurses := true, apart := false }
def FnExactTogetherBySaid : Prop := fnExactTogetherByRow.holds Try.pinned (OpenSpec.ofChange fnExactTogetherBySpec)

/-- ITS FALSE NEIGHBOUR: 'it returns false'. Refute it at one input. -/
def fnExactTogetherByWrong : ChangeSpec := { name := "fnExactTogetherBy", fn := fun _ => fun
  | [d1, d2, d3, d4] => { results := [.lit (.bool false)], args := [d1, d2, d3, d4] }
  | _ => none }
def FnExactTogetherByWrongFalsely : Prop := fnExactTogetherByRow.holds Try.pinned (OpenSpec.ofChange fnExactTogetherByWrong)

/-- 'laws.FnExactFollowsBy': WHATEVER THE INPUT: true; the input reads as it did. -/
def fnExactFollowsBySpec : ChangeSpec := { name := "fnExactFollowsBy", fn := fun _ => fun
  | [d1, d2, d3, d4] => { results := [.lit (.bool true)], args := [d1, d2, d3, d4] }
  | _ => none }
def fnExactFollowsByRow : OpenClaim := { program := "ytihhegpgadhmfaa", sum := "196ff22bd89f45bedb82119196e05d7382fa3afcc038bfb79a224361676a4e55", func := "loop.example/manyvalues/laws.FnExactFollowsBy", spec := "fnExactFollowsBy", unfollowed := true, recurses := true, apart := false }
def FnExactFollowsBySaid : Prop := fnExactFollowsByRow.holds Try.pinned (OpenSpec.ofChange fnExactFollowsBySpec)

/-- ITS FALSE NEIGHBOUR: 'it returns false'. Refute it at one input. -/
def fnExactFollowsByWrong : ChangeSpec := { name := "fnExactFollowsBy", fn := fun _ => fun
  | [d1, d2, d3, d4] => { results := [.lit (.bool false)], args := [d1, d2, d3, d4] }
  | _ => none }
def FnExactFollowsByWrongFalsely : Prop := fnExactFollowsByRow.holds Try.pinned (OpenSpec.ofChange fnExactFollowsByWrong)

/-- 'laws.FnExactNotBy': WHATEVER THE INPUT: true; the input reads as it did. -/
def fnExactNotBySpec : ChangeSpec := { name := "fnExactNotBy", fn := fun _ => fun
  | [d1, d2, d3] => { results := [.lit (.bool true)], args := [d1, d2, d3] }
  | _ => none }
def fnExactNotByRow : OpenClaim := { program := "ytihhegpgadhmfaa", sum := "196ff22bd89f45bedb82119196e05d7382fa3afcc038bfb79a224361676a4e55", func := "loop.example/manyvalues/laws.FnExactNotBy", spec := "fnExactNotBy", unfollowed := true, recurses := true, apart := false }
def FnExactNotBySaid : Prop := fnExactNotByRow.holds Try.pinned (OpenSpec.ofChange fnExactNotBySpec)

/-- ITS FALSE NEIGHBOUR: 'it returns false'. Refute it at one input. -/
def fnExactNotByWrong : ChangeSpec := { name := "fnExactNotBy", fn := fun _ => fun
  | [d1, d2, d3] => { results := [.lit (.bool false)], args := [d1, d2, d3] }
  | _ => none }
def FnExactNotByWrongFalsely : Prop := fnExactNotByRow.holds Try.pinned (OpenSpec.ofChange fnExactNotByWrong)

/-- 'laws.FnExactDivisibleOk': WHATEVER THE INPUT: true; the input reads as it did. -/
def fnExactDivisibleOkSpec : ChangeSpec := { name := "fnExactDivisibleOk", fn := fun _ => fun
  | [d1, d2] => { results := [.lit (.bool true)], args := [d1, d2] }
  | _ => none }
def fnExactDivisibleOkRow : OpenClaim := { program := "ytihhegpgadhmfaa", sum := "196ff22bd89f45bedb82119196e05d7382fa3afcc038bfb79a224361676a4e55", func := "loop.example/manyvalues/laws.FnExactDivisibleOk", spec := "fnExactDivisibleOk", unfollowed := true, recurses := true, apart := false }
def FnExactDivisibleOkSaid : Prop := fnExactDivisibleOkRow.holds Try.pinned (OpenSpec.ofChange fnExactDivisibleOkSpec)

/-- ITS FALSE NEIGHBOUR: 'it returns false'. Refute it at one input. -/
def fnExactDivisibleOkWrong : ChangeSpec := { name := "fnExactDivisibleOk", fn := fun _ => fun
  | [d1, d2] => { results := [.lit (.bool false)], args := [d1, d2] }
  | _ => none }
def FnExactDivisibleOkWrongFalsely : Prop := fnExactDivisibleOkRow.holds Try.pinned (OpenSpec.ofChange fnExactDivisibleOkWrong)

/-- 'laws.FnExactSelfOf': WHATEVER THE INPUT: true; the input reads as it did. -/
def fnExactSelfOfSpec : ChangeSpec := { name := "fnExactSelfOf", fn := fun _ => fun
  | [d1, d2] => { results := [.lit (.bool true)], args := [d1, d2] }
  | _ => none }
def fnExactSelfOfRow : OpenClaim := { program := "ytihhegpgadhmfaa", sum := "196ff22bd89f45bedb82119196e05d7382fa3afcc038bfb79a224361676a4e55", func := "loop.example/manyvalues/laws.FnExactSelfOf", spec := "fnExactSelfOf", unfollowed := true, recurses := true, apart := false }
def FnExactSelfOfSaid : Prop := fnExactSelfOfRow.holds Try.pinned (OpenSpec.ofChange fnExactSelfOfSpec)

/-- ITS FALSE NEIGHBOUR: 'it returns false'. Refute it at one input. -/
def fnExactSelfOfWrong : ChangeSpec := { name := "fnExactSelfOf", fn := fun _ => fun
  | [d1, d2] => { results := [.lit (.bool false)], args := [d1, d2] }
  | _ => none }
def FnExactSelfOfWrongFalsely : Prop := fnExactSelfOfRow.holds Try.pinned (OpenSpec.ofChange fnExactSelfOfWrong)

/- THE SECOND FORM. 'bulk': how many values and letters a reading holds, each counted each time it is reached (what is shared counts as often as it is met; a slice's spare places count too). A statement '..UptoSaid' is the law's where the arguments, and the package variables that the reading takes, are together of bulk at most 1048576: NARROWER than '..Said'. Prove '..Said' where nothing that the law and all that it calls make is longer than what came in: it says more and counts as full. Else prove '..UptoSaid'. A law counts once. -/
mutual
def uptoBulk {H : Type} : DataW H → Nat
  | .lit (.string bytes) => bytes.length + 1
  | .lit _ => 1
  | .nil => 1
  | .ptr d => uptoBulk d + 1
  | .slice elems spare => uptoBulkAll elems + uptoBulkAll spare + 1
  | .agg parts => uptoBulkAll parts + 1
  | .iface _ d => uptoBulk d + 1
  | .map entries => uptoBulkEntries entries + 1
  | .held _ => 1
def uptoBulkAll {H : Type} : List (DataW H) → Nat
  | [] => 0
  | d :: r => uptoBulk d + uptoBulkAll r
def uptoBulkEntries {H : Type} : List (Lit × DataW H) → Nat
  | [] => 0
  | x :: r => uptoBulkEntry x + uptoBulkEntries r
def uptoBulkEntry {H : Type} : Lit × DataW H → Nat
  | (.string bytes, d) => bytes.length + uptoBulk d + 1
  | (_, d) => uptoBulk d + 1
 end
def uptoSmall : (H : Type) → List (DataW H) → Bool := fun _ ds => decide (uptoBulkAll ds ≤ 1048576)
def OpenSpec.upto (s : _root_.Go.ChangeSpec) : _root_.Go.OpenSpec := { _root_.Go.OpenSpec.ofChange s with cond := some uptoSmall }

/-- 'laws.FnTogetherBy', WHERE WHAT IT READS IS OF BULK AT MOST 1048576: true; the input reads as it did. -/
def fnTogetherByUptoRow : OpenClaim := { program := "ytihhegpgadhmfaa", sum := "196ff22bd89f45bedb82119196e05d7382fa3afcc038bfb79a224361676a4e55", func := "loop.example/manyvalues/laws.FnTogetherBy", spec := "fnTogetherBy", unfollowed := true, recurses := true, apart := false, narrowed := true }
def FnTogetherByUptoSaid : Prop := fnTogetherByUptoRow.holds Try.pinned (OpenSpec.upto fnTogetherBySpec)

/-- 'laws.FnFollowsBy', WHERE WHAT IT READS IS OF BULK AT MOST 1048576: true; the input reads as it did. -/
def fnFollowsByUptoRow : OpenClaim := { program := "ytihhegpgadhmfaa", sum := "196ff22bd89f45bedb82119196e05d7382fa3afcc038bfb79a224361676a4e55", func := "loop.example/manyvalues/laws.FnFollowsBy", spec := "fnFollowsBy", unfollowed := true, recurses := true, apart := false, narrowed := true }
def FnFollowsByUptoSaid : Prop := fnFollowsByUptoRow.holds Try.pinned (OpenSpec.upto fnFollowsBySpec)

/-- 'laws.FnNotBy', WHERE WHAT IT READS IS OF BULK AT MOST 1048576: true; the input reads as it did. -/
def fnNotByUptoRow : OpenClaim := { program := "ytihhegpgadhmfaa", sum := "196ff22bd89f45bedb82119196e05d7382fa3afcc038bfb79a224361676a4e55", func := "loop.example/manyvalues/laws.FnNotBy", spec := "fnNotBy", unfollowed := true, recurses := true, apart := false, narrowed := true }
def FnNotByUptoSaid : Prop := fnNotByUptoRow.holds Try.pinned (OpenSpec.upto fnNotBySpec)

/-- 'laws.FnDivisibleOk', WHERE WHAT IT READS IS OF BULK AT MOST 1048576: true; the input reads as it did. -/
def fnDivisibleOkUptoRow : OpenClaim := { program := "ytihhegpgadhmfaa", sum := "196ff22bd89f45bedb82119196e05d7382fa3afcc038bfb79a224361676a4e55", func := "loop.example/manyvalues/laws.FnDivisibleOk", spec := "fnDivisibleOk", unfollowed := true, recurses := true, apart := false, narrowed := true }
def FnDivisibleOkUptoSaid : Prop := fnDivisibleOkUptoRow.holds Try.pinned (OpenSpec.upto fnDivisibleOkSpec)

/-- 'laws.FnSelfOf', WHERE WHAT IT READS IS OF BULK AT MOST 1048576: true; the input reads as it did. -/
def fnSelfOfUptoRow : OpenClaim := { program := "ytihhegpgadhmfaa", sum := "196ff22bd89f45bedb82119196e05d7382fa3afcc038bfb79a224361676a4e55", func := "loop.example/manyvalues/laws.FnSelfOf", spec := "fnSelfOf", unfollowed := true, recurses := true, apart := false, narrowed := true }
def FnSelfOfUptoSaid : Prop := fnSelfOfUptoRow.holds Try.pinned (OpenSpec.upto fnSelfOfSpec)

/-- 'laws.FnExactTogetherBy', WHERE WHAT IT READS IS OF BULK AT MOST 1048576: true; the input reads as it did. -/
def fnExactTogetherByUptoRow : OpenClaim := { program := "ytihhegpgadhmfaa", sum := "196ff22bd89f45bedb82119196e05d7382fa3afcc038bfb79a224361676a4e55", func := "loop.example/manyvalues/laws.FnExactTogetherBy", spec := "fnExactTogetherBy", unfollowed := true, recurses := true, apart := false, narrowed := true }
def FnExactTogetherByUptoSaid : Prop := fnExactTogetherByUptoRow.holds Try.pinned (OpenSpec.upto fnExactTogetherBySpec)

/-- 'laws.FnExactFollowsBy', WHERE WHAT IT READS IS OF BULK AT MOST 1048576: true; the input reads as it did. -/
def fnExactFollowsByUptoRow : OpenClaim := { program := "ytihhegpgadhmfaa", sum := "196ff22bd89f45bedb82119196e05d7382fa3afcc038bfb79a224361676a4e55", func := "loop.example/manyvalues/laws.FnExactFollowsBy", spec := "fnExactFollowsBy", unfollowed := true, recurses := true, apart := false, narrowed := true }
def FnExactFollowsByUptoSaid : Prop := fnExactFollowsByUptoRow.holds Try.pinned (OpenSpec.upto fnExactFollowsBySpec)

/-- 'laws.FnExactNotBy', WHERE WHAT IT READS IS OF BULK AT MOST 1048576: true; the input reads as it did. -/
def fnExactNotByUptoRow : OpenClaim := { program := "ytihhegpgadhmfaa", sum := "196ff22bd89f45bedb82119196e05d7382fa3afcc038bfb79a224361676a4e55", func := "loop.example/manyvalues/laws.FnExactNotBy", spec := "fnExactNotBy", unfollowed := true, recurses := true, apart := false, narrowed := true }
def FnExactNotByUptoSaid : Prop := fnExactNotByUptoRow.holds Try.pinned (OpenSpec.upto fnExactNotBySpec)

/-- 'laws.FnExactDivisibleOk', WHERE WHAT IT READS IS OF BULK AT MOST 1048576: true; the input reads as it did. -/
def fnExactDivisibleOkUptoRow : OpenClaim := { program := "ytihhegpgadhmfaa", sum := "196ff22bd89f45bedb82119196e05d7382fa3afcc038bfb79a224361676a4e55", func := "loop.example/manyvalues/laws.FnExactDivisibleOk", spec := "fnExactDivisibleOk", unfollowed := true, recurses := true, apart := false, narrowed := true }
def FnExactDivisibleOkUptoSaid : Prop := fnExactDivisibleOkUptoRow.holds Try.pinned (OpenSpec.upto fnExactDivisibleOkSpec)

/-- 'laws.FnExactSelfOf', WHERE WHAT IT READS IS OF BULK AT MOST 1048576: true; the input reads as it did. -/
def fnExactSelfOfUptoRow : OpenClaim := { program := "ytihhegpgadhmfaa", sum := "196ff22bd89f45bedb82119196e05d7382fa3afcc038bfb79a224361676a4e55", func := "loop.example/manyvalues/laws.FnExactSelfOf", spec := "fnExactSelfOf", unfollowed := true, recurses := true, apart := false, narrowed := true }
def FnExactSelfOfUptoSaid : Prop := fnExactSelfOfUptoRow.holds Try.pinned (OpenSpec.upto fnExactSelfOfSpec)

end Rows
end Go.Proofs.Ytihhegpgadhmfaa
