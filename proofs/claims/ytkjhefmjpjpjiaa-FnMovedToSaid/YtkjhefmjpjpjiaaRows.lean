/-
  No cell of these rows narrows 'for every input' (looked for: loops, veiled, ifaces, maps, wideKeys, modest, calm, conditions, laid).
  DERIVED. THE GIVEN ROWS OF THIS SEAT. 7 by the template 'for every input the law returns true; each argument reads behind the call as it read before'; 0 by the template 'total and deterministic' (their statements: YtkjhefmjpjpjiaaTotals.lean).
  GIVEN WITH THE SEED: the statements are not yours to turn. If you find one false, say at which input.
  Laid BY PROGRAM, IN A SANDBOX (cutbox-rows.mjs): the forced cells as the released guide's own fill.sh prints them over the translation c1047aaefd91853b… (all of the seat's roots in one cut). By AI agents, Wed Nov 11 2026. No macro, syntax, notation, axiom, sorry.
-/
import Derived.Test.YtkjhefmjpjpjiaaChecked
import GoSem.Claim
import GoSem.ClaimJoined
import GoSem.ClaimMapViews
import Derived.JoinedTies
import Derived.KernelRfl
namespace Go.Proofs.Ytkjhefmjpjpjiaa
/- THE CELL 'sum', in the pinned program and in every row, IS THE sha256 OF THE DUMP (.gsa) THAT YtkjhefmjpjpjiaaProg.lean LOADS. Nothing in Lean hashes anything: it is a label: what it is worth is what the hold of that sum in a sandbox is worth. -/
noncomputable def Try.pinned : Pinned := { name := "ytkjhefmjpjpjiaa", sum := "c1047aaefd91853b0460eeb7cd45d367adf1e4564c0af184b7b3cd8a5cc88f92", checked := Try.checked }
namespace Rows
def none {H : Type} : Left H := { results := [], args := [] }

/-- 'laws.FnValueOk': WHATEVER THE INPUT: true; the input reads as it did. -/
def fnValueOkSpec : ChangeSpec := { name := "fnValueOk", fn := fun _ => fun
  | [d] => { results := [.lit (.bool true)], args := [d] }
  | _ => none }
def fnValueOkRow : OpenClaim := { program := "ytkjhefmjpjpjiaa", sum := "c1047aaefd91853b0460eeb7cd45d367adf1e4564c0af184b7b3cd8a5cc88f92", func := "loop.example/manyvalues/laws.FnValueOk", spec := "fnValueOk", plainKeys := false, apart := false }
def FnValueOkSaid : Prop := fnValueOkRow.holds Try.pinned (OpenSpec.ofChange fnValueOkSpec)

/-- ITS FALSE NEIGHBOUR: 'it returns false'. Refute it at one input. -/
def fnValueOkWrong : ChangeSpec := { name := "fnValueOk", fn := fun _ => fun
  | [d] => { results := [.lit (.bool false)], args := [d] }
  | _ => none }
def FnValueOkWrongFalsely : Prop := fnValueOkRow.holds Try.pinned (OpenSpec.ofChange fnValueOkWrong)

/-- 'laws.FnLowestOf': WHATEVER THE INPUT: true; the input reads as it did. -/
def fnLowestOfSpec : ChangeSpec := { name := "fnLowestOf", fn := fun _ => fun
  | [d] => { results := [.lit (.bool true)], args := [d] }
  | _ => none }
def fnLowestOfRow : OpenClaim := { program := "ytkjhefmjpjpjiaa", sum := "c1047aaefd91853b0460eeb7cd45d367adf1e4564c0af184b7b3cd8a5cc88f92", func := "loop.example/manyvalues/laws.FnLowestOf", spec := "fnLowestOf", plainKeys := false, apart := false }
def FnLowestOfSaid : Prop := fnLowestOfRow.holds Try.pinned (OpenSpec.ofChange fnLowestOfSpec)

/-- ITS FALSE NEIGHBOUR: 'it returns false'. Refute it at one input. -/
def fnLowestOfWrong : ChangeSpec := { name := "fnLowestOf", fn := fun _ => fun
  | [d] => { results := [.lit (.bool false)], args := [d] }
  | _ => none }
def FnLowestOfWrongFalsely : Prop := fnLowestOfRow.holds Try.pinned (OpenSpec.ofChange fnLowestOfWrong)

/-- 'laws.FnMovedTo': WHATEVER THE INPUT: true; the input reads as it did. -/
def fnMovedToSpec : ChangeSpec := { name := "fnMovedTo", fn := fun _ => fun
  | [d] => { results := [.lit (.bool true)], args := [d] }
  | _ => none }
def fnMovedToRow : OpenClaim := { program := "ytkjhefmjpjpjiaa", sum := "c1047aaefd91853b0460eeb7cd45d367adf1e4564c0af184b7b3cd8a5cc88f92", func := "loop.example/manyvalues/laws.FnMovedTo", spec := "fnMovedTo", plainKeys := false, apart := false }
def FnMovedToSaid : Prop := fnMovedToRow.holds Try.pinned (OpenSpec.ofChange fnMovedToSpec)

/-- ITS FALSE NEIGHBOUR: 'it returns false'. Refute it at one input. -/
def fnMovedToWrong : ChangeSpec := { name := "fnMovedTo", fn := fun _ => fun
  | [d] => { results := [.lit (.bool false)], args := [d] }
  | _ => none }
def FnMovedToWrongFalsely : Prop := fnMovedToRow.holds Try.pinned (OpenSpec.ofChange fnMovedToWrong)

/-- 'laws.FnExactValueOk': WHATEVER THE INPUT: true; the input reads as it did. -/
def fnExactValueOkSpec : ChangeSpec := { name := "fnExactValueOk", fn := fun _ => fun
  | [d1, d2] => { results := [.lit (.bool true)], args := [d1, d2] }
  | _ => none }
def fnExactValueOkRow : OpenClaim := { program := "ytkjhefmjpjpjiaa", sum := "c1047aaefd91853b0460eeb7cd45d367adf1e4564c0af184b7b3cd8a5cc88f92", func := "loop.example/manyvalues/laws.FnExactValueOk", spec := "fnExactValueOk", plainKeys := false, apart := false }
def FnExactValueOkSaid : Prop := fnExactValueOkRow.holds Try.pinned (OpenSpec.ofChange fnExactValueOkSpec)

/-- ITS FALSE NEIGHBOUR: 'it returns false'. Refute it at one input. -/
def fnExactValueOkWrong : ChangeSpec := { name := "fnExactValueOk", fn := fun _ => fun
  | [d1, d2] => { results := [.lit (.bool false)], args := [d1, d2] }
  | _ => none }
def FnExactValueOkWrongFalsely : Prop := fnExactValueOkRow.holds Try.pinned (OpenSpec.ofChange fnExactValueOkWrong)

/-- 'laws.FnExactSameOk': WHATEVER THE INPUT: true; the input reads as it did. -/
def fnExactSameOkSpec : ChangeSpec := { name := "fnExactSameOk", fn := fun _ => fun
  | [d1, d2, d3, d4] => { results := [.lit (.bool true)], args := [d1, d2, d3, d4] }
  | _ => none }
def fnExactSameOkRow : OpenClaim := { program := "ytkjhefmjpjpjiaa", sum := "c1047aaefd91853b0460eeb7cd45d367adf1e4564c0af184b7b3cd8a5cc88f92", func := "loop.example/manyvalues/laws.FnExactSameOk", spec := "fnExactSameOk", plainKeys := false, apart := false }
def FnExactSameOkSaid : Prop := fnExactSameOkRow.holds Try.pinned (OpenSpec.ofChange fnExactSameOkSpec)

/-- ITS FALSE NEIGHBOUR: 'it returns false'. Refute it at one input. -/
def fnExactSameOkWrong : ChangeSpec := { name := "fnExactSameOk", fn := fun _ => fun
  | [d1, d2, d3, d4] => { results := [.lit (.bool false)], args := [d1, d2, d3, d4] }
  | _ => none }
def FnExactSameOkWrongFalsely : Prop := fnExactSameOkRow.holds Try.pinned (OpenSpec.ofChange fnExactSameOkWrong)

/-- 'laws.FnExactLowestOf': WHATEVER THE INPUT: true; the input reads as it did. -/
def fnExactLowestOfSpec : ChangeSpec := { name := "fnExactLowestOf", fn := fun _ => fun
  | [d1, d2] => { results := [.lit (.bool true)], args := [d1, d2] }
  | _ => none }
def fnExactLowestOfRow : OpenClaim := { program := "ytkjhefmjpjpjiaa", sum := "c1047aaefd91853b0460eeb7cd45d367adf1e4564c0af184b7b3cd8a5cc88f92", func := "loop.example/manyvalues/laws.FnExactLowestOf", spec := "fnExactLowestOf", plainKeys := false, apart := false }
def FnExactLowestOfSaid : Prop := fnExactLowestOfRow.holds Try.pinned (OpenSpec.ofChange fnExactLowestOfSpec)

/-- ITS FALSE NEIGHBOUR: 'it returns false'. Refute it at one input. -/
def fnExactLowestOfWrong : ChangeSpec := { name := "fnExactLowestOf", fn := fun _ => fun
  | [d1, d2] => { results := [.lit (.bool false)], args := [d1, d2] }
  | _ => none }
def FnExactLowestOfWrongFalsely : Prop := fnExactLowestOfRow.holds Try.pinned (OpenSpec.ofChange fnExactLowestOfWrong)

/-- 'laws.FnExactMovedTo': WHATEVER THE INPUT: true; the input reads as it did. -/
def fnExactMovedToSpec : ChangeSpec := { name := "fnExactMovedTo", fn := fun _ => fun
  | [d1, d2, d3] => { results := [.lit (.bool true)], args := [d1, d2, d3] }
  | _ => none }
def fnExactMovedToRow : OpenClaim := { program := "ytkjhefmjpjpjiaa", sum := "c1047aaefd91853b0460eeb7cd45d367adf1e4564c0af184b7b3cd8a5cc88f92", func := "loop.example/manyvalues/laws.FnExactMovedTo", spec := "fnExactMovedTo", plainKeys := false, apart := false }
def FnExactMovedToSaid : Prop := fnExactMovedToRow.holds Try.pinned (OpenSpec.ofChange fnExactMovedToSpec)

/-- ITS FALSE NEIGHBOUR: 'it returns false'. Refute it at one input. -/
def fnExactMovedToWrong : ChangeSpec := { name := "fnExactMovedTo", fn := fun _ => fun
  | [d1, d2, d3] => { results := [.lit (.bool false)], args := [d1, d2, d3] }
  | _ => none }
def FnExactMovedToWrongFalsely : Prop := fnExactMovedToRow.holds Try.pinned (OpenSpec.ofChange fnExactMovedToWrong)

/- THE SECOND FORM. 'bulk': how many values and letters a reading holds, each counted each time it is reached (what is shared counts as often as it is met; a slice's spare places count too). A statement '..UptoSaid' is the law's where the arguments, and the package variables that the reading takes, are together of bulk at most 1048576: NARROWER than '..Said'. Prove '..Said' where nothing that the law and all that it calls make is longer than what came in: it says more and counts as full. Else prove '..UptoSaid'. A law counts once. -/
mutual
def uptoBulk {H : Type} : DataW H → Nat
  | .lit (.string bytes) => bytes.length + 1
  | .lit _ => 1
  | .nil => 1
  | .ptr d => uptoBulk d + 1
  | .slice elems spare => uptoBulkAll elems + uptoBulkAll spare + 1
  | .agg parts => uptoBulkAll parts + 1
  | .iface _ d => uptoBulk d + 1
  | .map entries => uptoBulkEntries entries + 1
  | .held _ => 1
def uptoBulkAll {H : Type} : List (DataW H) → Nat
  | [] => 0
  | d :: r => uptoBulk d + uptoBulkAll r
def uptoBulkEntries {H : Type} : List (Lit × DataW H) → Nat
  | [] => 0
  | x :: r => uptoBulkEntry x + uptoBulkEntries r
def uptoBulkEntry {H : Type} : Lit × DataW H → Nat
  | (.string bytes, d) => bytes.length + uptoBulk d + 1
  | (_, d) => uptoBulk d + 1
 end
def uptoSmall : (H : Type) → List (DataW H) → Bool := fun _ ds => decide (uptoBulkAll ds ≤ 1048576)
def OpenSpec.upto (s : _root_.Go.ChangeSpec) : _root_.Go.OpenSpec := { _root_.Go.OpenSpec.ofChange s with cond := some uptoSmall }

/-- 'laws.FnValueOk', WHERE WHAT IT READS IS OF BULK AT MOST 1048576: true; the input reads as it did. -/
def fnValueOkUptoRow : OpenClaim := { program := "ytkjhefmjpjpjiaa", sum := "c1047aaefd91853b0460eeb7cd45d367adf1e4564c0af184b7b3cd8a5cc88f92", func := "loop.example/manyvalues/laws.FnValueOk", spec := "fnValueOk", plainKeys := false, apart := false, narrowed := true }
def FnValueOkUptoSaid : Prop := fnValueOkUptoRow.holds Try.pinned (OpenSpec.upto fnValueOkSpec)

/-- 'laws.FnLowestOf', WHERE WHAT IT READS IS OF BULK AT MOST 1048576: true; the input reads as it did. -/
def fnLowestOfUptoRow : OpenClaim := { program := "ytkjhefmjpjpjiaa", sum := "c1047aaefd91853b0460eeb7cd45d367adf1e4564c0af184b7b3cd8a5cc88f92", func := "loop.example/manyvalues/laws.FnLowestOf", spec := "fnLowestOf", plainKeys := false, apart := false, narrowed := true }
def FnLowestOfUptoSaid : Prop := fnLowestOfUptoRow.holds Try.pinned (OpenSpec.upto fnLowestOfSpec)

/-- 'laws.FnMovedTo', WHERE WHAT IT READS IS OF BULK AT MOST 1048576: true; the input reads as it did. -/
def fnMovedToUptoRow : OpenClaim := { program := "ytkjhefmjpjpjiaa", sum := "c1047aaefd91853b0460eeb7cd45d367adf1e4564c0af184b7b3cd8a5cc88f92", func := "loop.example/manyvalues/laws.FnMovedTo", spec := "fnMovedTo", plainKeys := false, apart := false, narrowed := true }
def FnMovedToUptoSaid : Prop := fnMovedToUptoRow.holds Try.pinned (OpenSpec.upto fnMovedToSpec)

/-- 'laws.FnExactValueOk', WHERE WHAT IT READS IS OF BULK AT MOST 1048576: true; the input reads as it did. -/
def fnExactValueOkUptoRow : OpenClaim := { program := "ytkjhefmjpjpjiaa", sum := "c1047aaefd91853b0460eeb7cd45d367adf1e4564c0af184b7b3cd8a5cc88f92", func := "loop.example/manyvalues/laws.FnExactValueOk", spec := "fnExactValueOk", plainKeys := false, apart := false, narrowed := true }
def FnExactValueOkUptoSaid : Prop := fnExactValueOkUptoRow.holds Try.pinned (OpenSpec.upto fnExactValueOkSpec)

/-- 'laws.FnExactSameOk', WHERE WHAT IT READS IS OF BULK AT MOST 1048576: true; the input reads as it did. -/
def fnExactSameOkUptoRow : OpenClaim := { program := "ytkjhefmjpjpjiaa", sum := "c1047aaefd91853b0460eeb7cd45d367adf1e4564c0af184b7b3cd8a5cc88f92", func := "loop.example/manyvalues/laws.FnExactSameOk", spec := "fnExactSameOk", plainKeys := false, apart := false, narrowed := true }
def FnExactSameOkUptoSaid : Prop := fnExactSameOkUptoRow.holds Try.pinned (OpenSpec.upto fnExactSameOkSpec)

/-- 'laws.FnExactLowestOf', WHERE WHAT IT READS IS OF BULK AT MOST 1048576: true; the input reads as it did. -/
def fnExactLowestOfUptoRow : OpenClaim := { program := "ytkjhefmjpjpjiaa", sum := "c1047aaefd91853b0460eeb7cd45d367adf1e4564c0af184b7b3cd8a5cc88f92", func := "loop.example/manyvalues/laws.FnExactLowestOf", spec := "fnExactLowestOf", plainKeys := false, apart := false, narrowed := true }
def FnExactLowestOfUptoSaid : Prop := fnExactLowestOfUptoRow.holds Try.pinned (OpenSpec.upto fnExactLowestOfSpec)

/-- 'laws.FnExactMovedTo', WHERE WHAT IT READS IS OF BULK AT MOST 1048576: true; the input reads as it did. -/
def fnExactMovedToUptoRow : OpenClaim := { program := "ytkjhefmjpjpjiaa", sum := "c1047aaefd91853b0460eeb7cd45d367adf1e4564c0af184b7b3cd8a5cc88f92", func := "loop.example/manyvalues/laws.FnExactMovedTo", spec := "fnExactMovedTo", plainKeys := false, apart := false, narrowed := true }
def FnExactMovedToUptoSaid : Prop := fnExactMovedToUptoRow.holds Try.pinned (OpenSpec.upto fnExactMovedToSpec)

end Rows
end Go.Proofs.Ytkjhefmjpjpjiaa
