/-
  No cell of these rows narrows 'for every input' (looked for: loops, veiled, ifaces, maps, wideKeys, modest, calm, conditions, laid).
  DERIVED. THE GIVEN ROWS OF THIS SEAT. 14 by the template 'for every input the law returns true; each argument reads behind the call as it read before'; 0 by the template 'total and deterministic' (their statements: YtacbofmpbeoaiaaTotals.lean).
  GIVEN WITH THE SEED: the statements are not yours to turn. If you find one false, say at which input.
  Laid BY PROGRAM, IN A SANDBOX (cutbox-rows.mjs): the forced cells as the released guide's own fill.sh prints them over the translation db73487234015ff5… (all of the seat's roots in one cut). By AI agents, Wed Nov 11 2026. No macro, syntax, notation, axiom, sorry.
-/
import Derived.Test.YtacbofmpbeoaiaaChecked
import GoSem.Claim
import GoSem.ClaimJoined
import GoSem.ClaimMapViews
import Derived.JoinedTies
import Derived.KernelRfl
namespace Go.Proofs.Ytacbofmpbeoaiaa
/- THE CELL 'sum', in the pinned program and in every row, IS THE sha256 OF THE DUMP (.gsa) THAT YtacbofmpbeoaiaaProg.lean LOADS. Nothing in Lean hashes anything: it is a label: what it is worth is what the hold of that sum in a sandbox is worth. -/
noncomputable def Try.pinned : Pinned := { name := "ytacbofmpbeoaiaa", sum := "db73487234015ff5a447a1c449f05e0fdaed857c6f3da94a1a2285ee96e7d00d", checked := Try.checked }
namespace Rows
def none {H : Type} : Left H := { results := [], args := [] }

/-- 'laws.FnNotOf': WHATEVER THE INPUT: true; the input reads as it did. -/
def fnNotOfSpec : ChangeSpec := { name := "fnNotOf", fn := fun _ => fun
  | [d] => { results := [.lit (.bool true)], args := [d] }
  | _ => none }
def fnNotOfRow : OpenClaim := { program := "ytacbofmpbeoaiaa", sum := "db73487234015ff5a447a1c449f05e0fdaed857c6f3da94a1a2285ee96e7d00d", func := "loop.example/manyvalues/laws.FnNotOf", spec := "fnNotOf", unfollowed := true, recurses := true, apart := false }
def FnNotOfSaid : Prop := fnNotOfRow.holds Try.pinned (OpenSpec.ofChange fnNotOfSpec)

/-- ITS FALSE NEIGHBOUR: 'it returns false'. Refute it at one input. -/
def fnNotOfWrong : ChangeSpec := { name := "fnNotOf", fn := fun _ => fun
  | [d] => { results := [.lit (.bool false)], args := [d] }
  | _ => none }
def FnNotOfWrongFalsely : Prop := fnNotOfRow.holds Try.pinned (OpenSpec.ofChange fnNotOfWrong)

/-- 'laws.FnFollowsOf': WHATEVER THE INPUT: true; the input reads as it did. -/
def fnFollowsOfSpec : ChangeSpec := { name := "fnFollowsOf", fn := fun _ => fun
  | [d] => { results := [.lit (.bool true)], args := [d] }
  | _ => none }
def fnFollowsOfRow : OpenClaim := { program := "ytacbofmpbeoaiaa", sum := "db73487234015ff5a447a1c449f05e0fdaed857c6f3da94a1a2285ee96e7d00d", func := "loop.example/manyvalues/laws.FnFollowsOf", spec := "fnFollowsOf", unfollowed := true, recurses := true, apart := false }
def FnFollowsOfSaid : Prop := fnFollowsOfRow.holds Try.pinned (OpenSpec.ofChange fnFollowsOfSpec)

/-- ITS FALSE NEIGHBOUR: 'it returns false'. Refute it at one input. -/
def fnFollowsOfWrong : ChangeSpec := { name := "fnFollowsOf", fn := fun _ => fun
  | [d] => { results := [.lit (.bool false)], args := [d] }
  | _ => none }
def FnFollowsOfWrongFalsely : Prop := fnFollowsOfRow.holds Try.pinned (OpenSpec.ofChange fnFollowsOfWrong)

/-- 'laws.FnPlusOf': WHATEVER THE INPUT: true; the input reads as it did. -/
def fnPlusOfSpec : ChangeSpec := { name := "fnPlusOf", fn := fun _ => fun
  | [d] => { results := [.lit (.bool true)], args := [d] }
  | _ => none }
def fnPlusOfRow : OpenClaim := { program := "ytacbofmpbeoaiaa", sum := "db73487234015ff5a447a1c449f05e0fdaed857c6f3da94a1a2285ee96e7d00d", func := "loop.example/manyvalues/laws.FnPlusOf", spec := "fnPlusOf", unfollowed := true, recurses := true, apart := false }
def FnPlusOfSaid : Prop := fnPlusOfRow.holds Try.pinned (OpenSpec.ofChange fnPlusOfSpec)

/-- ITS FALSE NEIGHBOUR: 'it returns false'. Refute it at one input. -/
def fnPlusOfWrong : ChangeSpec := { name := "fnPlusOf", fn := fun _ => fun
  | [d] => { results := [.lit (.bool false)], args := [d] }
  | _ => none }
def FnPlusOfWrongFalsely : Prop := fnPlusOfRow.holds Try.pinned (OpenSpec.ofChange fnPlusOfWrong)

/-- 'laws.FnTimesOf': WHATEVER THE INPUT: true; the input reads as it did. -/
def fnTimesOfSpec : ChangeSpec := { name := "fnTimesOf", fn := fun _ => fun
  | [d] => { results := [.lit (.bool true)], args := [d] }
  | _ => none }
def fnTimesOfRow : OpenClaim := { program := "ytacbofmpbeoaiaa", sum := "db73487234015ff5a447a1c449f05e0fdaed857c6f3da94a1a2285ee96e7d00d", func := "loop.example/manyvalues/laws.FnTimesOf", spec := "fnTimesOf", unfollowed := true, recurses := true, apart := false }
def FnTimesOfSaid : Prop := fnTimesOfRow.holds Try.pinned (OpenSpec.ofChange fnTimesOfSpec)

/-- ITS FALSE NEIGHBOUR: 'it returns false'. Refute it at one input. -/
def fnTimesOfWrong : ChangeSpec := { name := "fnTimesOf", fn := fun _ => fun
  | [d] => { results := [.lit (.bool false)], args := [d] }
  | _ => none }
def FnTimesOfWrongFalsely : Prop := fnTimesOfRow.holds Try.pinned (OpenSpec.ofChange fnTimesOfWrong)

/-- 'laws.FnLesserOf': WHATEVER THE INPUT: true; the input reads as it did. -/
def fnLesserOfSpec : ChangeSpec := { name := "fnLesserOf", fn := fun _ => fun
  | [d] => { results := [.lit (.bool true)], args := [d] }
  | _ => none }
def fnLesserOfRow : OpenClaim := { program := "ytacbofmpbeoaiaa", sum := "db73487234015ff5a447a1c449f05e0fdaed857c6f3da94a1a2285ee96e7d00d", func := "loop.example/manyvalues/laws.FnLesserOf", spec := "fnLesserOf", unfollowed := true, recurses := true, apart := false }
def FnLesserOfSaid : Prop := fnLesserOfRow.holds Try.pinned (OpenSpec.ofChange fnLesserOfSpec)

/-- ITS FALSE NEIGHBOUR: 'it returns false'. Refute it at one input. -/
def fnLesserOfWrong : ChangeSpec := { name := "fnLesserOf", fn := fun _ => fun
  | [d] => { results := [.lit (.bool false)], args := [d] }
  | _ => none }
def FnLesserOfWrongFalsely : Prop := fnLesserOfRow.holds Try.pinned (OpenSpec.ofChange fnLesserOfWrong)

/-- 'laws.FnGreaterOf': WHATEVER THE INPUT: true; the input reads as it did. -/
def fnGreaterOfSpec : ChangeSpec := { name := "fnGreaterOf", fn := fun _ => fun
  | [d] => { results := [.lit (.bool true)], args := [d] }
  | _ => none }
def fnGreaterOfRow : OpenClaim := { program := "ytacbofmpbeoaiaa", sum := "db73487234015ff5a447a1c449f05e0fdaed857c6f3da94a1a2285ee96e7d00d", func := "loop.example/manyvalues/laws.FnGreaterOf", spec := "fnGreaterOf", unfollowed := true, recurses := true, apart := false }
def FnGreaterOfSaid : Prop := fnGreaterOfRow.holds Try.pinned (OpenSpec.ofChange fnGreaterOfSpec)

/-- ITS FALSE NEIGHBOUR: 'it returns false'. Refute it at one input. -/
def fnGreaterOfWrong : ChangeSpec := { name := "fnGreaterOf", fn := fun _ => fun
  | [d] => { results := [.lit (.bool false)], args := [d] }
  | _ => none }
def FnGreaterOfWrongFalsely : Prop := fnGreaterOfRow.holds Try.pinned (OpenSpec.ofChange fnGreaterOfWrong)

/-- 'laws.FnManyTimes': WHATEVER THE INPUT: true; the input reads as it did. -/
def fnManyTimesSpec : ChangeSpec := { name := "fnManyTimes", fn := fun _ => fun
  | [d] => { results := [.lit (.bool true)], args := [d] }
  | _ => none }
def fnManyTimesRow : OpenClaim := { program := "ytacbofmpbeoaiaa", sum := "db73487234015ff5a447a1c449f05e0fdaed857c6f3da94a1a2285ee96e7d00d", func := "loop.example/manyvalues/laws.FnManyTimes", spec := "fnManyTimes", unfollowed := true, recurses := true, apart := false }
def FnManyTimesSaid : Prop := fnManyTimesRow.holds Try.pinned (OpenSpec.ofChange fnManyTimesSpec)

/-- ITS FALSE NEIGHBOUR: 'it returns false'. Refute it at one input. -/
def fnManyTimesWrong : ChangeSpec := { name := "fnManyTimes", fn := fun _ => fun
  | [d] => { results := [.lit (.bool false)], args := [d] }
  | _ => none }
def FnManyTimesWrongFalsely : Prop := fnManyTimesRow.holds Try.pinned (OpenSpec.ofChange fnManyTimesWrong)

/-- 'laws.FnExactNotOf': WHATEVER THE INPUT: true; the input reads as it did. -/
def fnExactNotOfSpec : ChangeSpec := { name := "fnExactNotOf", fn := fun _ => fun
  | [d1, d2] => { results := [.lit (.bool true)], args := [d1, d2] }
  | _ => none }
def fnExactNotOfRow : OpenClaim := { program := "ytacbofmpbeoaiaa", sum := "db73487234015ff5a447a1c449f05e0fdaed857c6f3da94a1a2285ee96e7d00d", func := "loop.example/manyvalues/laws.FnExactNotOf", spec := "fnExactNotOf", apart := false }
def FnExactNotOfSaid : Prop := fnExactNotOfRow.holds Try.pinned (OpenSpec.ofChange fnExactNotOfSpec)

/-- ITS FALSE NEIGHBOUR: 'it returns false'. Refute it at one input. -/
def fnExactNotOfWrong : ChangeSpec := { name := "fnExactNotOf", fn := fun _ => fun
  | [d1, d2] => { results := [.lit (.bool false)], args := [d1, d2] }
  | _ => none }
def FnExactNotOfWrongFalsely : Prop := fnExactNotOfRow.holds Try.pinned (OpenSpec.ofChange fnExactNotOfWrong)

/-- 'laws.FnExactFollowsOf': WHATEVER THE INPUT: true; the input reads as it did. -/
def fnExactFollowsOfSpec : ChangeSpec := { name := "fnExactFollowsOf", fn := fun _ => fun
  | [d1, d2, d3] => { results := [.lit (.bool true)], args := [d1, d2, d3] }
  | _ => none }
def fnExactFollowsOfRow : OpenClaim := { program := "ytacbofmpbeoaiaa", sum := "db73487234015ff5a447a1c449f05e0fdaed857c6f3da94a1a2285ee96e7d00d", func := "loop.example/manyvalues/laws.FnExactFollowsOf", spec := "fnExactFollowsOf", unfollowed := true, recurses := true, apart := false }
def FnExactFollowsOfSaid : Prop := fnExactFollowsOfRow.holds Try.pinned (OpenSpec.ofChange fnExactFollowsOfSpec)

/-- ITS FALSE NEIGHBOUR: 'it returns false'. Refute it at one input. -/
def fnExactFollowsOfWrong : ChangeSpec := { name := "fnExactFollowsOf", fn := fun _ => fun
  | [d1, d2, d3] => { results := [.lit (.bool false)], args := [d1, d2, d3] }
  | _ => none }
def FnExactFollowsOfWrongFalsely : Prop := fnExactFollowsOfRow.holds Try.pinned (OpenSpec.ofChange fnExactFollowsOfWrong)

/-- 'laws.FnExactPlusOf': WHATEVER THE INPUT: true; the input reads as it did. -/
def fnExactPlusOfSpec : ChangeSpec := { name := "fnExactPlusOf", fn := fun _ => fun
  | [d1, d2, d3] => { results := [.lit (.bool true)], args := [d1, d2, d3] }
  | _ => none }
def fnExactPlusOfRow : OpenClaim := { program := "ytacbofmpbeoaiaa", sum := "db73487234015ff5a447a1c449f05e0fdaed857c6f3da94a1a2285ee96e7d00d", func := "loop.example/manyvalues/laws.FnExactPlusOf", spec := "fnExactPlusOf", unfollowed := true, recurses := true, apart := false }
def FnExactPlusOfSaid : Prop := fnExactPlusOfRow.holds Try.pinned (OpenSpec.ofChange fnExactPlusOfSpec)

/-- ITS FALSE NEIGHBOUR: 'it returns false'. Refute it at one input. -/
def fnExactPlusOfWrong : ChangeSpec := { name := "fnExactPlusOf", fn := fun _ => fun
  | [d1, d2, d3] => { results := [.lit (.bool false)], args := [d1, d2, d3] }
  | _ => none }
def FnExactPlusOfWrongFalsely : Prop := fnExactPlusOfRow.holds Try.pinned (OpenSpec.ofChange fnExactPlusOfWrong)

/-- 'laws.FnExactTimesOf': WHATEVER THE INPUT: true; the input reads as it did. -/
def fnExactTimesOfSpec : ChangeSpec := { name := "fnExactTimesOf", fn := fun _ => fun
  | [d1, d2, d3] => { results := [.lit (.bool true)], args := [d1, d2, d3] }
  | _ => none }
def fnExactTimesOfRow : OpenClaim := { program := "ytacbofmpbeoaiaa", sum := "db73487234015ff5a447a1c449f05e0fdaed857c6f3da94a1a2285ee96e7d00d", func := "loop.example/manyvalues/laws.FnExactTimesOf", spec := "fnExactTimesOf", unfollowed := true, recurses := true, apart := false }
def FnExactTimesOfSaid : Prop := fnExactTimesOfRow.holds Try.pinned (OpenSpec.ofChange fnExactTimesOfSpec)

/-- ITS FALSE NEIGHBOUR: 'it returns false'. Refute it at one input. -/
def fnExactTimesOfWrong : ChangeSpec := { name := "fnExactTimesOf", fn := fun _ => fun
  | [d1, d2, d3] => { results := [.lit (.bool false)], args := [d1, d2, d3] }
  | _ => none }
def FnExactTimesOfWrongFalsely : Prop := fnExactTimesOfRow.holds Try.pinned (OpenSpec.ofChange fnExactTimesOfWrong)

/-- 'laws.FnExactLesserOf': WHATEVER THE INPUT: true; the input reads as it did. -/
def fnExactLesserOfSpec : ChangeSpec := { name := "fnExactLesserOf", fn := fun _ => fun
  | [d1, d2, d3] => { results := [.lit (.bool true)], args := [d1, d2, d3] }
  | _ => none }
def fnExactLesserOfRow : OpenClaim := { program := "ytacbofmpbeoaiaa", sum := "db73487234015ff5a447a1c449f05e0fdaed857c6f3da94a1a2285ee96e7d00d", func := "loop.example/manyvalues/laws.FnExactLesserOf", spec := "fnExactLesserOf", unfollowed := true, recurses := true, apart := false }
def FnExactLesserOfSaid : Prop := fnExactLesserOfRow.holds Try.pinned (OpenSpec.ofChange fnExactLesserOfSpec)

/-- ITS FALSE NEIGHBOUR: 'it returns false'. Refute it at one input. -/
def fnExactLesserOfWrong : ChangeSpec := { name := "fnExactLesserOf", fn := fun _ => fun
  | [d1, d2, d3] => { results := [.lit (.bool false)], args := [d1, d2, d3] }
  | _ => none }
def FnExactLesserOfWrongFalsely : Prop := fnExactLesserOfRow.holds Try.pinned (OpenSpec.ofChange fnExactLesserOfWrong)

/-- 'laws.FnExactGreaterOf': WHATEVER THE INPUT: true; the input reads as it did. -/
def fnExactGreaterOfSpec : ChangeSpec := { name := "fnExactGreaterOf", fn := fun _ => fun
  | [d1, d2, d3] => { results := [.lit (.bool true)], args := [d1, d2, d3] }
  | _ => none }
def fnExactGreaterOfRow : OpenClaim := { program := "ytacbofmpbeoaiaa", sum := "db73487234015ff5a447a1c449f05e0fdaed857c6f3da94a1a2285ee96e7d00d", func := "loop.example/manyvalues/laws.FnExactGreaterOf", spec := "fnExactGreaterOf", unfollowed := true, recurses := true, apart := false }
def FnExactGreaterOfSaid : Prop := fnExactGreaterOfRow.holds Try.pinned (OpenSpec.ofChange fnExactGreaterOfSpec)

/-- ITS FALSE NEIGHBOUR: 'it returns false'. Refute it at one input. -/
def fnExactGreaterOfWrong : ChangeSpec := { name := "fnExactGreaterOf", fn := fun _ => fun
  | [d1, d2, d3] => { results := [.lit (.bool false)], args := [d1, d2, d3] }
  | _ => none }
def FnExactGreaterOfWrongFalsely : Prop := fnExactGreaterOfRow.holds Try.pinned (OpenSpec.ofChange fnExactGreaterOfWrong)

/-- 'laws.FnExactManyTimes': WHATEVER THE INPUT: true; the input reads as it did. -/
def fnExactManyTimesSpec : ChangeSpec := { name := "fnExactManyTimes", fn := fun _ => fun
  | [d1, d2, d3] => { results := [.lit (.bool true)], args := [d1, d2, d3] }
  | _ => none }
def fnExactManyTimesRow : OpenClaim := { program := "ytacbofmpbeoaiaa", sum := "db73487234015ff5a447a1c449f05e0fdaed857c6f3da94a1a2285ee96e7d00d", func := "loop.example/manyvalues/laws.FnExactManyTimes", spec := "fnExactManyTimes", unfollowed := true, recurses := true, apart := false }
def FnExactManyTimesSaid : Prop := fnExactManyTimesRow.holds Try.pinned (OpenSpec.ofChange fnExactManyTimesSpec)

/-- ITS FALSE NEIGHBOUR: 'it returns false'. Refute it at one input. -/
def fnExactManyTimesWrong : ChangeSpec := { name := "fnExactManyTimes", fn := fun _ => fun
  | [d1, d2, d3] => { results := [.lit (.bool false)], args := [d1, d2, d3] }
  | _ => none }
def FnExactManyTimesWrongFalsely : Prop := fnExactManyTimesRow.holds Try.pinned (OpenSpec.ofChange fnExactManyTimesWrong)

/- THE SECOND FORM. 'bulk': how many values and letters a reading holds, each counted each time it is reached (what is shared counts as often as it is met; a slice's spare places count too). A statement '..UptoSaid' is the law's where the arguments, and the package variables that the reading takes, are together of bulk at most 1048576: NARROWER than '..Said'. Prove '..Said' where nothing that the law and all that it calls make is longer than what came in: it says more and counts as full. Else prove '..UptoSaid'. A law counts once. -/
mutual
def uptoBulk {H : Type} : DataW H → Nat
  | .lit (.string bytes) => bytes.length + 1
  | .lit _ => 1
  | .nil => 1
  | .ptr d => uptoBulk d + 1
  | .slice elems spare => uptoBulkAll elems + uptoBulkAll spare + 1
  | .agg parts => uptoBulkAll parts + 1
  | .iface _ d => uptoBulk d + 1
  | .map entries => uptoBulkEntries entries + 1
  | .held _ => 1
def uptoBulkAll {H : Type} : List (DataW H) → Nat
  | [] => 0
  | d :: r => uptoBulk d + uptoBulkAll r
def uptoBulkEntries {H : Type} : List (Lit × DataW H) → Nat
  | [] => 0
  | x :: r => uptoBulkEntry x + uptoBulkEntries r
def uptoBulkEntry {H : Type} : Lit × DataW H → Nat
  | (.string bytes, d) => bytes.length + uptoBulk d + 1
  | (_, d) => uptoBulk d + 1
 end
def uptoSmall : (H : Type) → List (DataW H) → Bool := fun _ ds => decide (uptoBulkAll ds ≤ 1048576)
def OpenSpec.upto (s : _root_.Go.ChangeSpec) : _root_.Go.OpenSpec := { _root_.Go.OpenSpec.ofChange s with cond := some uptoSmall }

/-- 'laws.FnNotOf', WHERE WHAT IT READS IS OF BULK AT MOST 1048576: true; the input reads as it did. -/
def fnNotOfUptoRow : OpenClaim := { program := "ytacbofmpbeoaiaa", sum := "db73487234015ff5a447a1c449f05e0fdaed857c6f3da94a1a2285ee96e7d00d", func := "loop.example/manyvalues/laws.FnNotOf", spec := "fnNotOf", unfollowed := true, recurses := true, apart := false, narrowed := true }
def FnNotOfUptoSaid : Prop := fnNotOfUptoRow.holds Try.pinned (OpenSpec.upto fnNotOfSpec)

/-- 'laws.FnFollowsOf', WHERE WHAT IT READS IS OF BULK AT MOST 1048576: true; the input reads as it did. -/
def fnFollowsOfUptoRow : OpenClaim := { program := "ytacbofmpbeoaiaa", sum := "db73487234015ff5a447a1c449f05e0fdaed857c6f3da94a1a2285ee96e7d00d", func := "loop.example/manyvalues/laws.FnFollowsOf", spec := "fnFollowsOf", unfollowed := true, recurses := true, apart := false, narrowed := true }
def FnFollowsOfUptoSaid : Prop := fnFollowsOfUptoRow.holds Try.pinned (OpenSpec.upto fnFollowsOfSpec)

/-- 'laws.FnPlusOf', WHERE WHAT IT READS IS OF BULK AT MOST 1048576: true; the input reads as it did. -/
def fnPlusOfUptoRow : OpenClaim := { program := "ytacbofmpbeoaiaa", sum := "db73487234015ff5a447a1c449f05e0fdaed857c6f3da94a1a2285ee96e7d00d", func := "loop.example/manyvalues/laws.FnPlusOf", spec := "fnPlusOf", unfollowed := true, recurses := true, apart := false, narrowed := true }
def FnPlusOfUptoSaid : Prop := fnPlusOfUptoRow.holds Try.pinned (OpenSpec.upto fnPlusOfSpec)

/-- 'laws.FnTimesOf', WHERE WHAT IT READS IS OF BULK AT MOST 1048576: true; the input reads as it did. -/
def fnTimesOfUptoRow : OpenClaim := { program := "ytacbofmpbeoaiaa", sum := "db73487234015ff5a447a1c449f05e0fdaed857c6f3da94a1a2285ee96e7d00d", func := "loop.example/manyvalues/laws.FnTimesOf", spec := "fnTimesOf", unfollowed := true, recurses := true, apart := false, narrowed := true }
def FnTimesOfUptoSaid : Prop := fnTimesOfUptoRow.holds Try.pinned (OpenSpec.upto fnTimesOfSpec)

/-- 'laws.FnLesserOf', WHERE WHAT IT READS IS OF BULK AT MOST 1048576: true; the input reads as it did. -/
def fnLesserOfUptoRow : OpenClaim := { program := "ytacbofmpbeoaiaa", sum := "db73487234015ff5a447a1c449f05e0fdaed857c6f3da94a1a2285ee96e7d00d", func := "loop.example/manyvalues/laws.FnLesserOf", spec := "fnLesserOf", unfollowed := true, recurses := true, apart := false, narrowed := true }
def FnLesserOfUptoSaid : Prop := fnLesserOfUptoRow.holds Try.pinned (OpenSpec.upto fnLesserOfSpec)

/-- 'laws.FnGreaterOf', WHERE WHAT IT READS IS OF BULK AT MOST 1048576: true; the input reads as it did. -/
def fnGreaterOfUptoRow : OpenClaim := { program := "ytacbofmpbeoaiaa", sum := "db73487234015ff5a447a1c449f05e0fdaed857c6f3da94a1a2285ee96e7d00d", func := "loop.example/manyvalues/laws.FnGreaterOf", spec := "fnGreaterOf", unfollowed := true, recurses := true, apart := false, narrowed := true }
def FnGreaterOfUptoSaid : Prop := fnGreaterOfUptoRow.holds Try.pinned (OpenSpec.upto fnGreaterOfSpec)

/-- 'laws.FnManyTimes', WHERE WHAT IT READS IS OF BULK AT MOST 1048576: true; the input reads as it did. -/
def fnManyTimesUptoRow : OpenClaim := { program := "ytacbofmpbeoaiaa", sum := "db73487234015ff5a447a1c449f05e0fdaed857c6f3da94a1a2285ee96e7d00d", func := "loop.example/manyvalues/laws.FnManyTimes", spec := "fnManyTimes", unfollowed := true, recurses := true, apart := false, narrowed := true }
def FnManyTimesUptoSaid : Prop := fnManyTimesUptoRow.holds Try.pinned (OpenSpec.upto fnManyTimesSpec)

/-- 'laws.FnExactNotOf', WHERE WHAT IT READS IS OF BULK AT MOST 1048576: true; the input reads as it did. -/
def fnExactNotOfUptoRow : OpenClaim := { program := "ytacbofmpbeoaiaa", sum := "db73487234015ff5a447a1c449f05e0fdaed857c6f3da94a1a2285ee96e7d00d", func := "loop.example/manyvalues/laws.FnExactNotOf", spec := "fnExactNotOf", apart := false, narrowed := true }
def FnExactNotOfUptoSaid : Prop := fnExactNotOfUptoRow.holds Try.pinned (OpenSpec.upto fnExactNotOfSpec)

/-- 'laws.FnExactFollowsOf', WHERE WHAT IT READS IS OF BULK AT MOST 1048576: true; the input reads as it did. -/
def fnExactFollowsOfUptoRow : OpenClaim := { program := "ytacbofmpbeoaiaa", sum := "db73487234015ff5a447a1c449f05e0fdaed857c6f3da94a1a2285ee96e7d00d", func := "loop.example/manyvalues/laws.FnExactFollowsOf", spec := "fnExactFollowsOf", unfollowed := true, recurses := true, apart := false, narrowed := true }
def FnExactFollowsOfUptoSaid : Prop := fnExactFollowsOfUptoRow.holds Try.pinned (OpenSpec.upto fnExactFollowsOfSpec)

/-- 'laws.FnExactPlusOf', WHERE WHAT IT READS IS OF BULK AT MOST 1048576: true; the input reads as it did. -/
def fnExactPlusOfUptoRow : OpenClaim := { program := "ytacbofmpbeoaiaa", sum := "db73487234015ff5a447a1c449f05e0fdaed857c6f3da94a1a2285ee96e7d00d", func := "loop.example/manyvalues/laws.FnExactPlusOf", spec := "fnExactPlusOf", unfollowed := true, recurses := true, apart := false, narrowed := true }
def FnExactPlusOfUptoSaid : Prop := fnExactPlusOfUptoRow.holds Try.pinned (OpenSpec.upto fnExactPlusOfSpec)

/-- 'laws.FnExactTimesOf', WHERE WHAT IT READS IS OF BULK AT MOST 1048576: true; the input reads as it did. -/
def fnExactTimesOfUptoRow : OpenClaim := { program := "ytacbofmpbeoaiaa", sum := "db73487234015ff5a447a1c449f05e0fdaed857c6f3da94a1a2285ee96e7d00d", func := "loop.example/manyvalues/laws.FnExactTimesOf", spec := "fnExactTimesOf", unfollowed := true, recurses := true, apart := false, narrowed := true }
def FnExactTimesOfUptoSaid : Prop := fnExactTimesOfUptoRow.holds Try.pinned (OpenSpec.upto fnExactTimesOfSpec)

/-- 'laws.FnExactLesserOf', WHERE WHAT IT READS IS OF BULK AT MOST 1048576: true; the input reads as it did. -/
def fnExactLesserOfUptoRow : OpenClaim := { program := "ytacbofmpbeoaiaa", sum := "db73487234015ff5a447a1c449f05e0fdaed857c6f3da94a1a2285ee96e7d00d", func := "loop.example/manyvalues/laws.FnExactLesserOf", spec := "fnExactLesserOf", unfollowed := true, recurses := true, apart := false, narrowed := true }
def FnExactLesserOfUptoSaid : Prop := fnExactLesserOfUptoRow.holds Try.pinned (OpenSpec.upto fnExactLesserOfSpec)

/-- 'laws.FnExactGreaterOf', WHERE WHAT IT READS IS OF BULK AT MOST 1048576: true; the input reads as it did. -/
def fnExactGreaterOfUptoRow : OpenClaim := { program := "ytacbofmpbeoaiaa", sum := "db73487234015ff5a447a1c449f05e0fdaed857c6f3da94a1a2285ee96e7d00d", func := "loop.example/manyvalues/laws.FnExactGreaterOf", spec := "fnExactGreaterOf", unfollowed := true, recurses := true, apart := false, narrowed := true }
def FnExactGreaterOfUptoSaid : Prop := fnExactGreaterOfUptoRow.holds Try.pinned (OpenSpec.upto fnExactGreaterOfSpec)

/-- 'laws.FnExactManyTimes', WHERE WHAT IT READS IS OF BULK AT MOST 1048576: true; the input reads as it did. -/
def fnExactManyTimesUptoRow : OpenClaim := { program := "ytacbofmpbeoaiaa", sum := "db73487234015ff5a447a1c449f05e0fdaed857c6f3da94a1a2285ee96e7d00d", func := "loop.example/manyvalues/laws.FnExactManyTimes", spec := "fnExactManyTimes", unfollowed := true, recurses := true, apart := false, narrowed := true }
def FnExactManyTimesUptoSaid : Prop := fnExactManyTimesUptoRow.holds Try.pinned (OpenSpec.upto fnExactManyTimesSpec)

end Rows
end Go.Proofs.Ytacbofmpbeoaiaa
