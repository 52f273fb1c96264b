/-
  No cell of these rows narrows 'for every input' (looked for: loops, veiled, ifaces, maps, wideKeys, modest, calm, conditions, laid).
  DERIVED. THE GIVEN ROWS OF THIS SEAT. 12 by the template 'for every input the law returns true; each argument reads behind the call as it read before'; 0 by the template 'total and deterministic' (their statements: YtbhfbpmfbknalaaTotals.lean).
  GIVEN WITH THE SEED: the statements are not yours to turn. If you find one false, say at which input.
  Laid BY PROGRAM, IN A SANDBOX (cutbox-rows.mjs): the forced cells as the released guide's own fill.sh prints them over the translation bfe5fdc578cefef9… (all of the seat's roots in one cut). By AI agents, Wed Nov 11 2026. No macro, syntax, notation, axiom, sorry.
-/
import Derived.Test.YtbhfbpmfbknalaaChecked
import GoSem.Claim
import GoSem.ClaimJoined
import GoSem.ClaimMapViews
import Derived.JoinedTies
import Derived.KernelRfl
namespace Go.Proofs.Ytbhfbpmfbknalaa
/- THE CELL 'sum', in the pinned program and in every row, IS THE sha256 OF THE DUMP (.gsa) THAT YtbhfbpmfbknalaaProg.lean LOADS. Nothing in Lean hashes anything: it is a label: what it is worth is what the hold of that sum in a sandbox is worth. -/
noncomputable def Try.pinned : Pinned := { name := "ytbhfbpmfbknalaa", sum := "bfe5fdc578cefef9aba150e48d96d3656112707a0f3b50e4a60fbece938fd844", checked := Try.checked }
namespace Rows
def none {H : Type} : Left H := { results := [], args := [] }

/-- 'laws.FnTableOk': WHATEVER THE INPUT: true; the input reads as it did. -/
def fnTableOkSpec : ChangeSpec := { name := "fnTableOk", fn := fun _ => fun
  | [d] => { results := [.lit (.bool true)], args := [d] }
  | _ => none }
def fnTableOkRow : OpenClaim := { program := "ytbhfbpmfbknalaa", sum := "bfe5fdc578cefef9aba150e48d96d3656112707a0f3b50e4a60fbece938fd844", func := "loop.example/manyvalues/laws.FnTableOk", spec := "fnTableOk", unfollowed := true, recurses := true, plainKeys := false, apart := false }
def FnTableOkSaid : Prop := fnTableOkRow.holds Try.pinned (OpenSpec.ofChange fnTableOkSpec)

/-- ITS FALSE NEIGHBOUR: 'it returns false'. Refute it at one input. -/
def fnTableOkWrong : ChangeSpec := { name := "fnTableOk", fn := fun _ => fun
  | [d] => { results := [.lit (.bool false)], args := [d] }
  | _ => none }
def FnTableOkWrongFalsely : Prop := fnTableOkRow.holds Try.pinned (OpenSpec.ofChange fnTableOkWrong)

/-- 'laws.FnTableAt': WHATEVER THE INPUT: true; the input reads as it did. -/
def fnTableAtSpec : ChangeSpec := { name := "fnTableAt", fn := fun _ => fun
  | [d] => { results := [.lit (.bool true)], args := [d] }
  | _ => none }
def fnTableAtRow : OpenClaim := { program := "ytbhfbpmfbknalaa", sum := "bfe5fdc578cefef9aba150e48d96d3656112707a0f3b50e4a60fbece938fd844", func := "loop.example/manyvalues/laws.FnTableAt", spec := "fnTableAt", unfollowed := true, recurses := true, plainKeys := false, apart := false }
def FnTableAtSaid : Prop := fnTableAtRow.holds Try.pinned (OpenSpec.ofChange fnTableAtSpec)

/-- ITS FALSE NEIGHBOUR: 'it returns false'. Refute it at one input. -/
def fnTableAtWrong : ChangeSpec := { name := "fnTableAt", fn := fun _ => fun
  | [d] => { results := [.lit (.bool false)], args := [d] }
  | _ => none }
def FnTableAtWrongFalsely : Prop := fnTableAtRow.holds Try.pinned (OpenSpec.ofChange fnTableAtWrong)

/-- 'laws.FnNamedTable': WHATEVER THE INPUT: true; the input reads as it did. -/
def fnNamedTableSpec : ChangeSpec := { name := "fnNamedTable", fn := fun _ => fun
  | [d] => { results := [.lit (.bool true)], args := [d] }
  | _ => none }
def fnNamedTableRow : OpenClaim := { program := "ytbhfbpmfbknalaa", sum := "bfe5fdc578cefef9aba150e48d96d3656112707a0f3b50e4a60fbece938fd844", func := "loop.example/manyvalues/laws.FnNamedTable", spec := "fnNamedTable", unfollowed := true, recurses := true, plainKeys := false, apart := false }
def FnNamedTableSaid : Prop := fnNamedTableRow.holds Try.pinned (OpenSpec.ofChange fnNamedTableSpec)

/-- ITS FALSE NEIGHBOUR: 'it returns false'. Refute it at one input. -/
def fnNamedTableWrong : ChangeSpec := { name := "fnNamedTable", fn := fun _ => fun
  | [d] => { results := [.lit (.bool false)], args := [d] }
  | _ => none }
def FnNamedTableWrongFalsely : Prop := fnNamedTableRow.holds Try.pinned (OpenSpec.ofChange fnNamedTableWrong)

/-- 'laws.FnRegularOk': WHATEVER THE INPUT: true; the input reads as it did. -/
def fnRegularOkSpec : ChangeSpec := { name := "fnRegularOk", fn := fun _ => fun
  | [d] => { results := [.lit (.bool true)], args := [d] }
  | _ => none }
def fnRegularOkRow : OpenClaim := { program := "ytbhfbpmfbknalaa", sum := "bfe5fdc578cefef9aba150e48d96d3656112707a0f3b50e4a60fbece938fd844", func := "loop.example/manyvalues/laws.FnRegularOk", spec := "fnRegularOk", unfollowed := true, recurses := true, plainKeys := false, apart := false }
def FnRegularOkSaid : Prop := fnRegularOkRow.holds Try.pinned (OpenSpec.ofChange fnRegularOkSpec)

/-- ITS FALSE NEIGHBOUR: 'it returns false'. Refute it at one input. -/
def fnRegularOkWrong : ChangeSpec := { name := "fnRegularOk", fn := fun _ => fun
  | [d] => { results := [.lit (.bool false)], args := [d] }
  | _ => none }
def FnRegularOkWrongFalsely : Prop := fnRegularOkRow.holds Try.pinned (OpenSpec.ofChange fnRegularOkWrong)

/-- 'laws.FnPutInto': WHATEVER THE INPUT: true; the input reads as it did. -/
def fnPutIntoSpec : ChangeSpec := { name := "fnPutInto", fn := fun _ => fun
  | [d] => { results := [.lit (.bool true)], args := [d] }
  | _ => none }
def fnPutIntoRow : OpenClaim := { program := "ytbhfbpmfbknalaa", sum := "bfe5fdc578cefef9aba150e48d96d3656112707a0f3b50e4a60fbece938fd844", func := "loop.example/manyvalues/laws.FnPutInto", spec := "fnPutInto", unfollowed := true, recurses := true, plainKeys := false, apart := false }
def FnPutIntoSaid : Prop := fnPutIntoRow.holds Try.pinned (OpenSpec.ofChange fnPutIntoSpec)

/-- ITS FALSE NEIGHBOUR: 'it returns false'. Refute it at one input. -/
def fnPutIntoWrong : ChangeSpec := { name := "fnPutInto", fn := fun _ => fun
  | [d] => { results := [.lit (.bool false)], args := [d] }
  | _ => none }
def FnPutIntoWrongFalsely : Prop := fnPutIntoRow.holds Try.pinned (OpenSpec.ofChange fnPutIntoWrong)

/-- 'laws.FnStrongOf': WHATEVER THE INPUT: true; the input reads as it did. -/
def fnStrongOfSpec : ChangeSpec := { name := "fnStrongOf", fn := fun _ => fun
  | [d1, d2] => { results := [.lit (.bool true)], args := [d1, d2] }
  | _ => none }
def fnStrongOfRow : OpenClaim := { program := "ytbhfbpmfbknalaa", sum := "bfe5fdc578cefef9aba150e48d96d3656112707a0f3b50e4a60fbece938fd844", func := "loop.example/manyvalues/laws.FnStrongOf", spec := "fnStrongOf", unfollowed := true, recurses := true, plainKeys := false, apart := false }
def FnStrongOfSaid : Prop := fnStrongOfRow.holds Try.pinned (OpenSpec.ofChange fnStrongOfSpec)

/-- ITS FALSE NEIGHBOUR: 'it returns false'. Refute it at one input. -/
def fnStrongOfWrong : ChangeSpec := { name := "fnStrongOf", fn := fun _ => fun
  | [d1, d2] => { results := [.lit (.bool false)], args := [d1, d2] }
  | _ => none }
def FnStrongOfWrongFalsely : Prop := fnStrongOfRow.holds Try.pinned (OpenSpec.ofChange fnStrongOfWrong)

/-- 'laws.FnExactTableOk': WHATEVER THE INPUT: true; the input reads as it did. -/
def fnExactTableOkSpec : ChangeSpec := { name := "fnExactTableOk", fn := fun _ => fun
  | [d] => { results := [.lit (.bool true)], args := [d] }
  | _ => none }
def fnExactTableOkRow : OpenClaim := { program := "ytbhfbpmfbknalaa", sum := "bfe5fdc578cefef9aba150e48d96d3656112707a0f3b50e4a60fbece938fd844", func := "loop.example/manyvalues/laws.FnExactTableOk", spec := "fnExactTableOk", unfollowed := true, recurses := true, plainKeys := false, apart := false }
def FnExactTableOkSaid : Prop := fnExactTableOkRow.holds Try.pinned (OpenSpec.ofChange fnExactTableOkSpec)

/-- ITS FALSE NEIGHBOUR: 'it returns false'. Refute it at one input. -/
def fnExactTableOkWrong : ChangeSpec := { name := "fnExactTableOk", fn := fun _ => fun
  | [d] => { results := [.lit (.bool false)], args := [d] }
  | _ => none }
def FnExactTableOkWrongFalsely : Prop := fnExactTableOkRow.holds Try.pinned (OpenSpec.ofChange fnExactTableOkWrong)

/-- 'laws.FnExactTableAt': WHATEVER THE INPUT: true; the input reads as it did. -/
def fnExactTableAtSpec : ChangeSpec := { name := "fnExactTableAt", fn := fun _ => fun
  | [d1, d2, d3] => { results := [.lit (.bool true)], args := [d1, d2, d3] }
  | _ => none }
def fnExactTableAtRow : OpenClaim := { program := "ytbhfbpmfbknalaa", sum := "bfe5fdc578cefef9aba150e48d96d3656112707a0f3b50e4a60fbece938fd844", func := "loop.example/manyvalues/laws.FnExactTableAt", spec := "fnExactTableAt", unfollowed := true, recurses := true, plainKeys := false, apart := false }
def FnExactTableAtSaid : Prop := fnExactTableAtRow.holds Try.pinned (OpenSpec.ofChange fnExactTableAtSpec)

/-- ITS FALSE NEIGHBOUR: 'it returns false'. Refute it at one input. -/
def fnExactTableAtWrong : ChangeSpec := { name := "fnExactTableAt", fn := fun _ => fun
  | [d1, d2, d3] => { results := [.lit (.bool false)], args := [d1, d2, d3] }
  | _ => none }
def FnExactTableAtWrongFalsely : Prop := fnExactTableAtRow.holds Try.pinned (OpenSpec.ofChange fnExactTableAtWrong)

/-- 'laws.FnExactNamedTable': WHATEVER THE INPUT: true; the input reads as it did. -/
def fnExactNamedTableSpec : ChangeSpec := { name := "fnExactNamedTable", fn := fun _ => fun
  | [d] => { results := [.lit (.bool true)], args := [d] }
  | _ => none }
def fnExactNamedTableRow : OpenClaim := { program := "ytbhfbpmfbknalaa", sum := "bfe5fdc578cefef9aba150e48d96d3656112707a0f3b50e4a60fbece938fd844", func := "loop.example/manyvalues/laws.FnExactNamedTable", spec := "fnExactNamedTable", unfollowed := true, recurses := true, plainKeys := false, apart := false }
def FnExactNamedTableSaid : Prop := fnExactNamedTableRow.holds Try.pinned (OpenSpec.ofChange fnExactNamedTableSpec)

/-- ITS FALSE NEIGHBOUR: 'it returns false'. Refute it at one input. -/
def fnExactNamedTableWrong : ChangeSpec := { name := "fnExactNamedTable", fn := fun _ => fun
  | [d] => { results := [.lit (.bool false)], args := [d] }
  | _ => none }
def FnExactNamedTableWrongFalsely : Prop := fnExactNamedTableRow.holds Try.pinned (OpenSpec.ofChange fnExactNamedTableWrong)

/-- 'laws.FnExactRegularOk': WHATEVER THE INPUT: true; the input reads as it did. -/
def fnExactRegularOkSpec : ChangeSpec := { name := "fnExactRegularOk", fn := fun _ => fun
  | [d] => { results := [.lit (.bool true)], args := [d] }
  | _ => none }
def fnExactRegularOkRow : OpenClaim := { program := "ytbhfbpmfbknalaa", sum := "bfe5fdc578cefef9aba150e48d96d3656112707a0f3b50e4a60fbece938fd844", func := "loop.example/manyvalues/laws.FnExactRegularOk", spec := "fnExactRegularOk", unfollowed := true, recurses := true, plainKeys := false, apart := false }
def FnExactRegularOkSaid : Prop := fnExactRegularOkRow.holds Try.pinned (OpenSpec.ofChange fnExactRegularOkSpec)

/-- ITS FALSE NEIGHBOUR: 'it returns false'. Refute it at one input. -/
def fnExactRegularOkWrong : ChangeSpec := { name := "fnExactRegularOk", fn := fun _ => fun
  | [d] => { results := [.lit (.bool false)], args := [d] }
  | _ => none }
def FnExactRegularOkWrongFalsely : Prop := fnExactRegularOkRow.holds Try.pinned (OpenSpec.ofChange fnExactRegularOkWrong)

/-- 'laws.FnExactPutInto': WHATEVER THE INPUT: true; the input reads as it did. -/
def fnExactPutIntoSpec : ChangeSpec := { name := "fnExactPutInto", fn := fun _ => fun
  | [d1, d2, d3] => { results := [.lit (.bool true)], args := [d1, d2, d3] }
  | _ => none }
def fnExactPutIntoRow : OpenClaim := { program := "ytbhfbpmfbknalaa", sum := "bfe5fdc578cefef9aba150e48d96d3656112707a0f3b50e4a60fbece938fd844", func := "loop.example/manyvalues/laws.FnExactPutInto", spec := "fnExactPutInto", unfollowed := true, recurses := true, plainKeys := false, apart := false }
def FnExactPutIntoSaid : Prop := fnExactPutIntoRow.holds Try.pinned (OpenSpec.ofChange fnExactPutIntoSpec)

/-- ITS FALSE NEIGHBOUR: 'it returns false'. Refute it at one input. -/
def fnExactPutIntoWrong : ChangeSpec := { name := "fnExactPutInto", fn := fun _ => fun
  | [d1, d2, d3] => { results := [.lit (.bool false)], args := [d1, d2, d3] }
  | _ => none }
def FnExactPutIntoWrongFalsely : Prop := fnExactPutIntoRow.holds Try.pinned (OpenSpec.ofChange fnExactPutIntoWrong)

/-- 'laws.FnExactStrongOf': WHATEVER THE INPUT: true; the input reads as it did. -/
def fnExactStrongOfSpec : ChangeSpec := { name := "fnExactStrongOf", fn := fun _ => fun
  | [d] => { results := [.lit (.bool true)], args := [d] }
  | _ => none }
def fnExactStrongOfRow : OpenClaim := { program := "ytbhfbpmfbknalaa", sum := "bfe5fdc578cefef9aba150e48d96d3656112707a0f3b50e4a60fbece938fd844", func := "loop.example/manyvalues/laws.FnExactStrongOf", spec := "fnExactStrongOf", unfollowed := true, recurses := true, plainKeys := false, apart := false }
def FnExactStrongOfSaid : Prop := fnExactStrongOfRow.holds Try.pinned (OpenSpec.ofChange fnExactStrongOfSpec)

/-- ITS FALSE NEIGHBOUR: 'it returns false'. Refute it at one input. -/
def fnExactStrongOfWrong : ChangeSpec := { name := "fnExactStrongOf", fn := fun _ => fun
  | [d] => { results := [.lit (.bool false)], args := [d] }
  | _ => none }
def FnExactStrongOfWrongFalsely : Prop := fnExactStrongOfRow.holds Try.pinned (OpenSpec.ofChange fnExactStrongOfWrong)

/- THE SECOND FORM. 'bulk': how many values and letters a reading holds, each counted each time it is reached (what is shared counts as often as it is met; a slice's spare places count too). A statement '..UptoSaid' is the law's where the arguments, and the package variables that the reading takes, are together of bulk at most 1048576: NARROWER than '..Said'. Prove '..Said' where nothing that the law and all that it calls make is longer than what came in: it says more and counts as full. Else prove '..UptoSaid'. A law counts once. -/
mutual
def uptoBulk {H : Type} : DataW H → Nat
  | .lit (.string bytes) => bytes.length + 1
  | .lit _ => 1
  | .nil => 1
  | .ptr d => uptoBulk d + 1
  | .slice elems spare => uptoBulkAll elems + uptoBulkAll spare + 1
  | .agg parts => uptoBulkAll parts + 1
  | .iface _ d => uptoBulk d + 1
  | .map entries => uptoBulkEntries entries + 1
  | .held _ => 1
def uptoBulkAll {H : Type} : List (DataW H) → Nat
  | [] => 0
  | d :: r => uptoBulk d + uptoBulkAll r
def uptoBulkEntries {H : Type} : List (Lit × DataW H) → Nat
  | [] => 0
  | x :: r => uptoBulkEntry x + uptoBulkEntries r
def uptoBulkEntry {H : Type} : Lit × DataW H → Nat
  | (.string bytes, d) => bytes.length + uptoBulk d + 1
  | (_, d) => uptoBulk d + 1
 end
def uptoSmall : (H : Type) → List (DataW H) → Bool := fun _ ds => decide (uptoBulkAll ds ≤ 1048576)
def OpenSpec.upto (s : _root_.Go.ChangeSpec) : _root_.Go.OpenSpec := { _root_.Go.OpenSpec.ofChange s with cond := some uptoSmall }

/-- 'laws.FnTableOk', WHERE WHAT IT READS IS OF BULK AT MOST 1048576: true; the input reads as it did. -/
def fnTableOkUptoRow : OpenClaim := { program := "ytbhfbpmfbknalaa", sum := "bfe5fdc578cefef9aba150e48d96d3656112707a0f3b50e4a60fbece938fd844", func := "loop.example/manyvalues/laws.FnTableOk", spec := "fnTableOk", unfollowed := true, recurses := true, plainKeys := false, apart := false, narrowed := true }
def FnTableOkUptoSaid : Prop := fnTableOkUptoRow.holds Try.pinned (OpenSpec.upto fnTableOkSpec)

/-- 'laws.FnTableAt', WHERE WHAT IT READS IS OF BULK AT MOST 1048576: true; the input reads as it did. -/
def fnTableAtUptoRow : OpenClaim := { program := "ytbhfbpmfbknalaa", sum := "bfe5fdc578cefef9aba150e48d96d3656112707a0f3b50e4a60fbece938fd844", func := "loop.example/manyvalues/laws.FnTableAt", spec := "fnTableAt", unfollowed := true, recurses := true, plainKeys := false, apart := false, narrowed := true }
def FnTableAtUptoSaid : Prop := fnTableAtUptoRow.holds Try.pinned (OpenSpec.upto fnTableAtSpec)

/-- 'laws.FnNamedTable', WHERE WHAT IT READS IS OF BULK AT MOST 1048576: true; the input reads as it did. -/
def fnNamedTableUptoRow : OpenClaim := { program := "ytbhfbpmfbknalaa", sum := "bfe5fdc578cefef9aba150e48d96d3656112707a0f3b50e4a60fbece938fd844", func := "loop.example/manyvalues/laws.FnNamedTable", spec := "fnNamedTable", unfollowed := true, recurses := true, plainKeys := false, apart := false, narrowed := true }
def FnNamedTableUptoSaid : Prop := fnNamedTableUptoRow.holds Try.pinned (OpenSpec.upto fnNamedTableSpec)

/-- 'laws.FnRegularOk', WHERE WHAT IT READS IS OF BULK AT MOST 1048576: true; the input reads as it did. -/
def fnRegularOkUptoRow : OpenClaim := { program := "ytbhfbpmfbknalaa", sum := "bfe5fdc578cefef9aba150e48d96d3656112707a0f3b50e4a60fbece938fd844", func := "loop.example/manyvalues/laws.FnRegularOk", spec := "fnRegularOk", unfollowed := true, recurses := true, plainKeys := false, apart := false, narrowed := true }
def FnRegularOkUptoSaid : Prop := fnRegularOkUptoRow.holds Try.pinned (OpenSpec.upto fnRegularOkSpec)

/-- 'laws.FnPutInto', WHERE WHAT IT READS IS OF BULK AT MOST 1048576: true; the input reads as it did. -/
def fnPutIntoUptoRow : OpenClaim := { program := "ytbhfbpmfbknalaa", sum := "bfe5fdc578cefef9aba150e48d96d3656112707a0f3b50e4a60fbece938fd844", func := "loop.example/manyvalues/laws.FnPutInto", spec := "fnPutInto", unfollowed := true, recurses := true, plainKeys := false, apart := false, narrowed := true }
def FnPutIntoUptoSaid : Prop := fnPutIntoUptoRow.holds Try.pinned (OpenSpec.upto fnPutIntoSpec)

/-- 'laws.FnStrongOf', WHERE WHAT IT READS IS OF BULK AT MOST 1048576: true; the input reads as it did. -/
def fnStrongOfUptoRow : OpenClaim := { program := "ytbhfbpmfbknalaa", sum := "bfe5fdc578cefef9aba150e48d96d3656112707a0f3b50e4a60fbece938fd844", func := "loop.example/manyvalues/laws.FnStrongOf", spec := "fnStrongOf", unfollowed := true, recurses := true, plainKeys := false, apart := false, narrowed := true }
def FnStrongOfUptoSaid : Prop := fnStrongOfUptoRow.holds Try.pinned (OpenSpec.upto fnStrongOfSpec)

/-- 'laws.FnExactTableOk', WHERE WHAT IT READS IS OF BULK AT MOST 1048576: true; the input reads as it did. -/
def fnExactTableOkUptoRow : OpenClaim := { program := "ytbhfbpmfbknalaa", sum := "bfe5fdc578cefef9aba150e48d96d3656112707a0f3b50e4a60fbece938fd844", func := "loop.example/manyvalues/laws.FnExactTableOk", spec := "fnExactTableOk", unfollowed := true, recurses := true, plainKeys := false, apart := false, narrowed := true }
def FnExactTableOkUptoSaid : Prop := fnExactTableOkUptoRow.holds Try.pinned (OpenSpec.upto fnExactTableOkSpec)

/-- 'laws.FnExactTableAt', WHERE WHAT IT READS IS OF BULK AT MOST 1048576: true; the input reads as it did. -/
def fnExactTableAtUptoRow : OpenClaim := { program := "ytbhfbpmfbknalaa", sum := "bfe5fdc578cefef9aba150e48d96d3656112707a0f3b50e4a60fbece938fd844", func := "loop.example/manyvalues/laws.FnExactTableAt", spec := "fnExactTableAt", unfollowed := true, recurses := true, plainKeys := false, apart := false, narrowed := true }
def FnExactTableAtUptoSaid : Prop := fnExactTableAtUptoRow.holds Try.pinned (OpenSpec.upto fnExactTableAtSpec)

/-- 'laws.FnExactNamedTable', WHERE WHAT IT READS IS OF BULK AT MOST 1048576: true; the input reads as it did. -/
def fnExactNamedTableUptoRow : OpenClaim := { program := "ytbhfbpmfbknalaa", sum := "bfe5fdc578cefef9aba150e48d96d3656112707a0f3b50e4a60fbece938fd844", func := "loop.example/manyvalues/laws.FnExactNamedTable", spec := "fnExactNamedTable", unfollowed := true, recurses := true, plainKeys := false, apart := false, narrowed := true }
def FnExactNamedTableUptoSaid : Prop := fnExactNamedTableUptoRow.holds Try.pinned (OpenSpec.upto fnExactNamedTableSpec)

/-- 'laws.FnExactRegularOk', WHERE WHAT IT READS IS OF BULK AT MOST 1048576: true; the input reads as it did. -/
def fnExactRegularOkUptoRow : OpenClaim := { program := "ytbhfbpmfbknalaa", sum := "bfe5fdc578cefef9aba150e48d96d3656112707a0f3b50e4a60fbece938fd844", func := "loop.example/manyvalues/laws.FnExactRegularOk", spec := "fnExactRegularOk", unfollowed := true, recurses := true, plainKeys := false, apart := false, narrowed := true }
def FnExactRegularOkUptoSaid : Prop := fnExactRegularOkUptoRow.holds Try.pinned (OpenSpec.upto fnExactRegularOkSpec)

/-- 'laws.FnExactPutInto', WHERE WHAT IT READS IS OF BULK AT MOST 1048576: true; the input reads as it did. -/
def fnExactPutIntoUptoRow : OpenClaim := { program := "ytbhfbpmfbknalaa", sum := "bfe5fdc578cefef9aba150e48d96d3656112707a0f3b50e4a60fbece938fd844", func := "loop.example/manyvalues/laws.FnExactPutInto", spec := "fnExactPutInto", unfollowed := true, recurses := true, plainKeys := false, apart := false, narrowed := true }
def FnExactPutIntoUptoSaid : Prop := fnExactPutIntoUptoRow.holds Try.pinned (OpenSpec.upto fnExactPutIntoSpec)

/-- 'laws.FnExactStrongOf', WHERE WHAT IT READS IS OF BULK AT MOST 1048576: true; the input reads as it did. -/
def fnExactStrongOfUptoRow : OpenClaim := { program := "ytbhfbpmfbknalaa", sum := "bfe5fdc578cefef9aba150e48d96d3656112707a0f3b50e4a60fbece938fd844", func := "loop.example/manyvalues/laws.FnExactStrongOf", spec := "fnExactStrongOf", unfollowed := true, recurses := true, plainKeys := false, apart := false, narrowed := true }
def FnExactStrongOfUptoSaid : Prop := fnExactStrongOfUptoRow.holds Try.pinned (OpenSpec.upto fnExactStrongOfSpec)

end Rows
end Go.Proofs.Ytbhfbpmfbknalaa
