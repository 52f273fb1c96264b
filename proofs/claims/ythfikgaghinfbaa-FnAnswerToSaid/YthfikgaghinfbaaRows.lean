/-
  No cell of these rows narrows 'for every input' (looked for: loops, veiled, ifaces, maps, wideKeys, modest, calm, conditions, laid).
  DERIVED. THE GIVEN ROWS OF THIS SEAT. 14 by the template 'for every input the law returns true; each argument reads behind the call as it read before'; 0 by the template 'total and deterministic' (their statements: YthfikgaghinfbaaTotals.lean).
  GIVEN WITH THE SEED: the statements are not yours to turn. If you find one false, say at which input.
  Laid BY PROGRAM, IN A SANDBOX (cutbox-rows.mjs): the forced cells as the released guide's own fill.sh prints them over the translation cd18b1fc181dfa77… (all of the seat's roots in one cut). By AI agents, Wed Nov 11 2026. No macro, syntax, notation, axiom, sorry.
-/
import Derived.Test.YthfikgaghinfbaaChecked
import GoSem.Claim
import GoSem.ClaimJoined
import GoSem.ClaimMapViews
import Derived.JoinedTies
import Derived.KernelRfl
namespace Go.Proofs.Ythfikgaghinfbaa
/- THE CELL 'sum', in the pinned program and in every row, IS THE sha256 OF THE DUMP (.gsa) THAT YthfikgaghinfbaaProg.lean LOADS. Nothing in Lean hashes anything: it is a label: what it is worth is what the hold of that sum in a sandbox is worth. -/
noncomputable def Try.pinned : Pinned := { name := "ythfikgaghinfbaa", sum := "cd18b1fc181dfa77f6ed65260a3b75d04f5f45fb20dfed84ca6a5e80aba9dd53", checked := Try.checked }
namespace Rows
def none {H : Type} : Left H := { results := [], args := [] }

/-- 'laws.FnGameOk': WHATEVER THE INPUT: true; the input reads as it did. -/
def fnGameOkSpec : ChangeSpec := { name := "fnGameOk", fn := fun _ => fun
  | [d] => { results := [.lit (.bool true)], args := [d] }
  | _ => none }
def fnGameOkRow : OpenClaim := { program := "ythfikgaghinfbaa", sum := "cd18b1fc181dfa77f6ed65260a3b75d04f5f45fb20dfed84ca6a5e80aba9dd53", func := "loop.example/manyvalues/laws.FnGameOk", spec := "fnGameOk", unfollowed := true, recurses := true, apart := false }
def FnGameOkSaid : Prop := fnGameOkRow.holds Try.pinned (OpenSpec.ofChange fnGameOkSpec)

/-- ITS FALSE NEIGHBOUR: 'it returns false'. Refute it at one input. -/
def fnGameOkWrong : ChangeSpec := { name := "fnGameOk", fn := fun _ => fun
  | [d] => { results := [.lit (.bool false)], args := [d] }
  | _ => none }
def FnGameOkWrongFalsely : Prop := fnGameOkRow.holds Try.pinned (OpenSpec.ofChange fnGameOkWrong)

/-- 'laws.FnAnswerTo': WHATEVER THE INPUT: true; the input reads as it did. -/
def fnAnswerToSpec : ChangeSpec := { name := "fnAnswerTo", fn := fun _ => fun
  | [d1, d2] => { results := [.lit (.bool true)], args := [d1, d2] }
  | _ => none }
def fnAnswerToRow : OpenClaim := { program := "ythfikgaghinfbaa", sum := "cd18b1fc181dfa77f6ed65260a3b75d04f5f45fb20dfed84ca6a5e80aba9dd53", func := "loop.example/manyvalues/laws.FnAnswerTo", spec := "fnAnswerTo", unfollowed := true, recurses := true, apart := false }
def FnAnswerToSaid : Prop := fnAnswerToRow.holds Try.pinned (OpenSpec.ofChange fnAnswerToSpec)

/-- ITS FALSE NEIGHBOUR: 'it returns false'. Refute it at one input. -/
def fnAnswerToWrong : ChangeSpec := { name := "fnAnswerTo", fn := fun _ => fun
  | [d1, d2] => { results := [.lit (.bool false)], args := [d1, d2] }
  | _ => none }
def FnAnswerToWrongFalsely : Prop := fnAnswerToRow.holds Try.pinned (OpenSpec.ofChange fnAnswerToWrong)

/-- 'laws.FnLeftOf': WHATEVER THE INPUT: true; the input reads as it did. -/
def fnLeftOfSpec : ChangeSpec := { name := "fnLeftOf", fn := fun _ => fun
  | [d] => { results := [.lit (.bool true)], args := [d] }
  | _ => none }
def fnLeftOfRow : OpenClaim := { program := "ythfikgaghinfbaa", sum := "cd18b1fc181dfa77f6ed65260a3b75d04f5f45fb20dfed84ca6a5e80aba9dd53", func := "loop.example/manyvalues/laws.FnLeftOf", spec := "fnLeftOf", unfollowed := true, recurses := true, apart := false }
def FnLeftOfSaid : Prop := fnLeftOfRow.holds Try.pinned (OpenSpec.ofChange fnLeftOfSpec)

/-- ITS FALSE NEIGHBOUR: 'it returns false'. Refute it at one input. -/
def fnLeftOfWrong : ChangeSpec := { name := "fnLeftOf", fn := fun _ => fun
  | [d] => { results := [.lit (.bool false)], args := [d] }
  | _ => none }
def FnLeftOfWrongFalsely : Prop := fnLeftOfRow.holds Try.pinned (OpenSpec.ofChange fnLeftOfWrong)

/-- 'laws.FnWeightOf': WHATEVER THE INPUT: true; the input reads as it did. -/
def fnWeightOfSpec : ChangeSpec := { name := "fnWeightOf", fn := fun _ => fun
  | [d] => { results := [.lit (.bool true)], args := [d] }
  | _ => none }
def fnWeightOfRow : OpenClaim := { program := "ythfikgaghinfbaa", sum := "cd18b1fc181dfa77f6ed65260a3b75d04f5f45fb20dfed84ca6a5e80aba9dd53", func := "loop.example/manyvalues/laws.FnWeightOf", spec := "fnWeightOf", unfollowed := true, recurses := true, apart := false }
def FnWeightOfSaid : Prop := fnWeightOfRow.holds Try.pinned (OpenSpec.ofChange fnWeightOfSpec)

/-- ITS FALSE NEIGHBOUR: 'it returns false'. Refute it at one input. -/
def fnWeightOfWrong : ChangeSpec := { name := "fnWeightOf", fn := fun _ => fun
  | [d] => { results := [.lit (.bool false)], args := [d] }
  | _ => none }
def FnWeightOfWrongFalsely : Prop := fnWeightOfRow.holds Try.pinned (OpenSpec.ofChange fnWeightOfWrong)

/-- 'laws.FnEnoughOk': WHATEVER THE INPUT: true; the input reads as it did. -/
def fnEnoughOkSpec : ChangeSpec := { name := "fnEnoughOk", fn := fun _ => fun
  | [d] => { results := [.lit (.bool true)], args := [d] }
  | _ => none }
def fnEnoughOkRow : OpenClaim := { program := "ythfikgaghinfbaa", sum := "cd18b1fc181dfa77f6ed65260a3b75d04f5f45fb20dfed84ca6a5e80aba9dd53", func := "loop.example/manyvalues/laws.FnEnoughOk", spec := "fnEnoughOk", unfollowed := true, recurses := true, apart := false }
def FnEnoughOkSaid : Prop := fnEnoughOkRow.holds Try.pinned (OpenSpec.ofChange fnEnoughOkSpec)

/-- ITS FALSE NEIGHBOUR: 'it returns false'. Refute it at one input. -/
def fnEnoughOkWrong : ChangeSpec := { name := "fnEnoughOk", fn := fun _ => fun
  | [d] => { results := [.lit (.bool false)], args := [d] }
  | _ => none }
def FnEnoughOkWrongFalsely : Prop := fnEnoughOkRow.holds Try.pinned (OpenSpec.ofChange fnEnoughOkWrong)

/-- 'laws.FnFewestOf': WHATEVER THE INPUT: true; the input reads as it did. -/
def fnFewestOfSpec : ChangeSpec := { name := "fnFewestOf", fn := fun _ => fun
  | [d] => { results := [.lit (.bool true)], args := [d] }
  | _ => none }
def fnFewestOfRow : OpenClaim := { program := "ythfikgaghinfbaa", sum := "cd18b1fc181dfa77f6ed65260a3b75d04f5f45fb20dfed84ca6a5e80aba9dd53", func := "loop.example/manyvalues/laws.FnFewestOf", spec := "fnFewestOf", unfollowed := true, recurses := true, apart := false }
def FnFewestOfSaid : Prop := fnFewestOfRow.holds Try.pinned (OpenSpec.ofChange fnFewestOfSpec)

/-- ITS FALSE NEIGHBOUR: 'it returns false'. Refute it at one input. -/
def fnFewestOfWrong : ChangeSpec := { name := "fnFewestOf", fn := fun _ => fun
  | [d] => { results := [.lit (.bool false)], args := [d] }
  | _ => none }
def FnFewestOfWrongFalsely : Prop := fnFewestOfRow.holds Try.pinned (OpenSpec.ofChange fnFewestOfWrong)

/-- 'laws.FnBestSet': WHATEVER THE INPUT: true; the input reads as it did. -/
def fnBestSetSpec : ChangeSpec := { name := "fnBestSet", fn := fun _ => fun
  | [d] => { results := [.lit (.bool true)], args := [d] }
  | _ => none }
def fnBestSetRow : OpenClaim := { program := "ythfikgaghinfbaa", sum := "cd18b1fc181dfa77f6ed65260a3b75d04f5f45fb20dfed84ca6a5e80aba9dd53", func := "loop.example/manyvalues/laws.FnBestSet", spec := "fnBestSet", unfollowed := true, recurses := true, apart := false }
def FnBestSetSaid : Prop := fnBestSetRow.holds Try.pinned (OpenSpec.ofChange fnBestSetSpec)

/-- ITS FALSE NEIGHBOUR: 'it returns false'. Refute it at one input. -/
def fnBestSetWrong : ChangeSpec := { name := "fnBestSet", fn := fun _ => fun
  | [d] => { results := [.lit (.bool false)], args := [d] }
  | _ => none }
def FnBestSetWrongFalsely : Prop := fnBestSetRow.holds Try.pinned (OpenSpec.ofChange fnBestSetWrong)

/-- 'laws.FnExactGameOk': WHATEVER THE INPUT: true; the input reads as it did. -/
def fnExactGameOkSpec : ChangeSpec := { name := "fnExactGameOk", fn := fun _ => fun
  | [d1, d2] => { results := [.lit (.bool true)], args := [d1, d2] }
  | _ => none }
def fnExactGameOkRow : OpenClaim := { program := "ythfikgaghinfbaa", sum := "cd18b1fc181dfa77f6ed65260a3b75d04f5f45fb20dfed84ca6a5e80aba9dd53", func := "loop.example/manyvalues/laws.FnExactGameOk", spec := "fnExactGameOk", unfollowed := true, recurses := true, apart := false }
def FnExactGameOkSaid : Prop := fnExactGameOkRow.holds Try.pinned (OpenSpec.ofChange fnExactGameOkSpec)

/-- ITS FALSE NEIGHBOUR: 'it returns false'. Refute it at one input. -/
def fnExactGameOkWrong : ChangeSpec := { name := "fnExactGameOk", fn := fun _ => fun
  | [d1, d2] => { results := [.lit (.bool false)], args := [d1, d2] }
  | _ => none }
def FnExactGameOkWrongFalsely : Prop := fnExactGameOkRow.holds Try.pinned (OpenSpec.ofChange fnExactGameOkWrong)

/-- 'laws.FnExactAnswerTo': WHATEVER THE INPUT: true; the input reads as it did. -/
def fnExactAnswerToSpec : ChangeSpec := { name := "fnExactAnswerTo", fn := fun _ => fun
  | [d1, d2, d3, d4] => { results := [.lit (.bool true)], args := [d1, d2, d3, d4] }
  | _ => none }
def fnExactAnswerToRow : OpenClaim := { program := "ythfikgaghinfbaa", sum := "cd18b1fc181dfa77f6ed65260a3b75d04f5f45fb20dfed84ca6a5e80aba9dd53", func := "loop.example/manyvalues/laws.FnExactAnswerTo", spec := "fnExactAnswerTo", unfollowed := true, recurses := true, apart := false }
def FnExactAnswerToSaid : Prop := fnExactAnswerToRow.holds Try.pinned (OpenSpec.ofChange fnExactAnswerToSpec)

/-- ITS FALSE NEIGHBOUR: 'it returns false'. Refute it at one input. -/
def fnExactAnswerToWrong : ChangeSpec := { name := "fnExactAnswerTo", fn := fun _ => fun
  | [d1, d2, d3, d4] => { results := [.lit (.bool false)], args := [d1, d2, d3, d4] }
  | _ => none }
def FnExactAnswerToWrongFalsely : Prop := fnExactAnswerToRow.holds Try.pinned (OpenSpec.ofChange fnExactAnswerToWrong)

/-- 'laws.FnExactLeftOf': WHATEVER THE INPUT: true; the input reads as it did. -/
def fnExactLeftOfSpec : ChangeSpec := { name := "fnExactLeftOf", fn := fun _ => fun
  | [d1, d2] => { results := [.lit (.bool true)], args := [d1, d2] }
  | _ => none }
def fnExactLeftOfRow : OpenClaim := { program := "ythfikgaghinfbaa", sum := "cd18b1fc181dfa77f6ed65260a3b75d04f5f45fb20dfed84ca6a5e80aba9dd53", func := "loop.example/manyvalues/laws.FnExactLeftOf", spec := "fnExactLeftOf", unfollowed := true, recurses := true, apart := false }
def FnExactLeftOfSaid : Prop := fnExactLeftOfRow.holds Try.pinned (OpenSpec.ofChange fnExactLeftOfSpec)

/-- ITS FALSE NEIGHBOUR: 'it returns false'. Refute it at one input. -/
def fnExactLeftOfWrong : ChangeSpec := { name := "fnExactLeftOf", fn := fun _ => fun
  | [d1, d2] => { results := [.lit (.bool false)], args := [d1, d2] }
  | _ => none }
def FnExactLeftOfWrongFalsely : Prop := fnExactLeftOfRow.holds Try.pinned (OpenSpec.ofChange fnExactLeftOfWrong)

/-- 'laws.FnExactWeightOf': WHATEVER THE INPUT: true; the input reads as it did. -/
def fnExactWeightOfSpec : ChangeSpec := { name := "fnExactWeightOf", fn := fun _ => fun
  | [d1, d2, d3] => { results := [.lit (.bool true)], args := [d1, d2, d3] }
  | _ => none }
def fnExactWeightOfRow : OpenClaim := { program := "ythfikgaghinfbaa", sum := "cd18b1fc181dfa77f6ed65260a3b75d04f5f45fb20dfed84ca6a5e80aba9dd53", func := "loop.example/manyvalues/laws.FnExactWeightOf", spec := "fnExactWeightOf", unfollowed := true, recurses := true, apart := false }
def FnExactWeightOfSaid : Prop := fnExactWeightOfRow.holds Try.pinned (OpenSpec.ofChange fnExactWeightOfSpec)

/-- ITS FALSE NEIGHBOUR: 'it returns false'. Refute it at one input. -/
def fnExactWeightOfWrong : ChangeSpec := { name := "fnExactWeightOf", fn := fun _ => fun
  | [d1, d2, d3] => { results := [.lit (.bool false)], args := [d1, d2, d3] }
  | _ => none }
def FnExactWeightOfWrongFalsely : Prop := fnExactWeightOfRow.holds Try.pinned (OpenSpec.ofChange fnExactWeightOfWrong)

/-- 'laws.FnExactEnoughOk': WHATEVER THE INPUT: true; the input reads as it did. -/
def fnExactEnoughOkSpec : ChangeSpec := { name := "fnExactEnoughOk", fn := fun _ => fun
  | [d1, d2, d3] => { results := [.lit (.bool true)], args := [d1, d2, d3] }
  | _ => none }
def fnExactEnoughOkRow : OpenClaim := { program := "ythfikgaghinfbaa", sum := "cd18b1fc181dfa77f6ed65260a3b75d04f5f45fb20dfed84ca6a5e80aba9dd53", func := "loop.example/manyvalues/laws.FnExactEnoughOk", spec := "fnExactEnoughOk", unfollowed := true, recurses := true, apart := false }
def FnExactEnoughOkSaid : Prop := fnExactEnoughOkRow.holds Try.pinned (OpenSpec.ofChange fnExactEnoughOkSpec)

/-- ITS FALSE NEIGHBOUR: 'it returns false'. Refute it at one input. -/
def fnExactEnoughOkWrong : ChangeSpec := { name := "fnExactEnoughOk", fn := fun _ => fun
  | [d1, d2, d3] => { results := [.lit (.bool false)], args := [d1, d2, d3] }
  | _ => none }
def FnExactEnoughOkWrongFalsely : Prop := fnExactEnoughOkRow.holds Try.pinned (OpenSpec.ofChange fnExactEnoughOkWrong)

/-- 'laws.FnExactFewestOf': WHATEVER THE INPUT: true; the input reads as it did. -/
def fnExactFewestOfSpec : ChangeSpec := { name := "fnExactFewestOf", fn := fun _ => fun
  | [d1, d2] => { results := [.lit (.bool true)], args := [d1, d2] }
  | _ => none }
def fnExactFewestOfRow : OpenClaim := { program := "ythfikgaghinfbaa", sum := "cd18b1fc181dfa77f6ed65260a3b75d04f5f45fb20dfed84ca6a5e80aba9dd53", func := "loop.example/manyvalues/laws.FnExactFewestOf", spec := "fnExactFewestOf", unfollowed := true, recurses := true, apart := false }
def FnExactFewestOfSaid : Prop := fnExactFewestOfRow.holds Try.pinned (OpenSpec.ofChange fnExactFewestOfSpec)

/-- ITS FALSE NEIGHBOUR: 'it returns false'. Refute it at one input. -/
def fnExactFewestOfWrong : ChangeSpec := { name := "fnExactFewestOf", fn := fun _ => fun
  | [d1, d2] => { results := [.lit (.bool false)], args := [d1, d2] }
  | _ => none }
def FnExactFewestOfWrongFalsely : Prop := fnExactFewestOfRow.holds Try.pinned (OpenSpec.ofChange fnExactFewestOfWrong)

/-- 'laws.FnExactBestSet': WHATEVER THE INPUT: true; the input reads as it did. -/
def fnExactBestSetSpec : ChangeSpec := { name := "fnExactBestSet", fn := fun _ => fun
  | [d1, d2] => { results := [.lit (.bool true)], args := [d1, d2] }
  | _ => none }
def fnExactBestSetRow : OpenClaim := { program := "ythfikgaghinfbaa", sum := "cd18b1fc181dfa77f6ed65260a3b75d04f5f45fb20dfed84ca6a5e80aba9dd53", func := "loop.example/manyvalues/laws.FnExactBestSet", spec := "fnExactBestSet", unfollowed := true, recurses := true, apart := false }
def FnExactBestSetSaid : Prop := fnExactBestSetRow.holds Try.pinned (OpenSpec.ofChange fnExactBestSetSpec)

/-- ITS FALSE NEIGHBOUR: 'it returns false'. Refute it at one input. -/
def fnExactBestSetWrong : ChangeSpec := { name := "fnExactBestSet", fn := fun _ => fun
  | [d1, d2] => { results := [.lit (.bool false)], args := [d1, d2] }
  | _ => none }
def FnExactBestSetWrongFalsely : Prop := fnExactBestSetRow.holds Try.pinned (OpenSpec.ofChange fnExactBestSetWrong)

/- THE SECOND FORM. 'bulk': how many values and letters a reading holds, each counted each time it is reached (what is shared counts as often as it is met; a slice's spare places count too). A statement '..UptoSaid' is the law's where the arguments, and the package variables that the reading takes, are together of bulk at most 1048576: NARROWER than '..Said'. Prove '..Said' where nothing that the law and all that it calls make is longer than what came in: it says more and counts as full. Else prove '..UptoSaid'. A law counts once. -/
mutual
def uptoBulk {H : Type} : DataW H → Nat
  | .lit (.string bytes) => bytes.length + 1
  | .lit _ => 1
  | .nil => 1
  | .ptr d => uptoBulk d + 1
  | .slice elems spare => uptoBulkAll elems + uptoBulkAll spare + 1
  | .agg parts => uptoBulkAll parts + 1
  | .iface _ d => uptoBulk d + 1
  | .map entries => uptoBulkEntries entries + 1
  | .held _ => 1
def uptoBulkAll {H : Type} : List (DataW H) → Nat
  | [] => 0
  | d :: r => uptoBulk d + uptoBulkAll r
def uptoBulkEntries {H : Type} : List (Lit × DataW H) → Nat
  | [] => 0
  | x :: r => uptoBulkEntry x + uptoBulkEntries r
def uptoBulkEntry {H : Type} : Lit × DataW H → Nat
  | (.string bytes, d) => bytes.length + uptoBulk d + 1
  | (_, d) => uptoBulk d + 1
 end
def uptoSmall : (H : Type) → List (DataW H) → Bool := fun _ ds => decide (uptoBulkAll ds ≤ 1048576)
def OpenSpec.upto (s : _root_.Go.ChangeSpec) : _root_.Go.OpenSpec := { _root_.Go.OpenSpec.ofChange s with cond := some uptoSmall }

/-- 'laws.FnGameOk', WHERE WHAT IT READS IS OF BULK AT MOST 1048576: true; the input reads as it did. -/
def fnGameOkUptoRow : OpenClaim := { program := "ythfikgaghinfbaa", sum := "cd18b1fc181dfa77f6ed65260a3b75d04f5f45fb20dfed84ca6a5e80aba9dd53", func := "loop.example/manyvalues/laws.FnGameOk", spec := "fnGameOk", unfollowed := true, recurses := true, apart := false, narrowed := true }
def FnGameOkUptoSaid : Prop := fnGameOkUptoRow.holds Try.pinned (OpenSpec.upto fnGameOkSpec)

/-- 'laws.FnAnswerTo', WHERE WHAT IT READS IS OF BULK AT MOST 1048576: true; the input reads as it did. -/
def fnAnswerToUptoRow : OpenClaim := { program := "ythfikgaghinfbaa", sum := "cd18b1fc181dfa77f6ed65260a3b75d04f5f45fb20dfed84ca6a5e80aba9dd53", func := "loop.example/manyvalues/laws.FnAnswerTo", spec := "fnAnswerTo", unfollowed := true, recurses := true, apart := false, narrowed := true }
def FnAnswerToUptoSaid : Prop := fnAnswerToUptoRow.holds Try.pinned (OpenSpec.upto fnAnswerToSpec)

/-- 'laws.FnLeftOf', WHERE WHAT IT READS IS OF BULK AT MOST 1048576: true; the input reads as it did. -/
def fnLeftOfUptoRow : OpenClaim := { program := "ythfikgaghinfbaa", sum := "cd18b1fc181dfa77f6ed65260a3b75d04f5f45fb20dfed84ca6a5e80aba9dd53", func := "loop.example/manyvalues/laws.FnLeftOf", spec := "fnLeftOf", unfollowed := true, recurses := true, apart := false, narrowed := true }
def FnLeftOfUptoSaid : Prop := fnLeftOfUptoRow.holds Try.pinned (OpenSpec.upto fnLeftOfSpec)

/-- 'laws.FnWeightOf', WHERE WHAT IT READS IS OF BULK AT MOST 1048576: true; the input reads as it did. -/
def fnWeightOfUptoRow : OpenClaim := { program := "ythfikgaghinfbaa", sum := "cd18b1fc181dfa77f6ed65260a3b75d04f5f45fb20dfed84ca6a5e80aba9dd53", func := "loop.example/manyvalues/laws.FnWeightOf", spec := "fnWeightOf", unfollowed := true, recurses := true, apart := false, narrowed := true }
def FnWeightOfUptoSaid : Prop := fnWeightOfUptoRow.holds Try.pinned (OpenSpec.upto fnWeightOfSpec)

/-- 'laws.FnEnoughOk', WHERE WHAT IT READS IS OF BULK AT MOST 1048576: true; the input reads as it did. -/
def fnEnoughOkUptoRow : OpenClaim := { program := "ythfikgaghinfbaa", sum := "cd18b1fc181dfa77f6ed65260a3b75d04f5f45fb20dfed84ca6a5e80aba9dd53", func := "loop.example/manyvalues/laws.FnEnoughOk", spec := "fnEnoughOk", unfollowed := true, recurses := true, apart := false, narrowed := true }
def FnEnoughOkUptoSaid : Prop := fnEnoughOkUptoRow.holds Try.pinned (OpenSpec.upto fnEnoughOkSpec)

/-- 'laws.FnFewestOf', WHERE WHAT IT READS IS OF BULK AT MOST 1048576: true; the input reads as it did. -/
def fnFewestOfUptoRow : OpenClaim := { program := "ythfikgaghinfbaa", sum := "cd18b1fc181dfa77f6ed65260a3b75d04f5f45fb20dfed84ca6a5e80aba9dd53", func := "loop.example/manyvalues/laws.FnFewestOf", spec := "fnFewestOf", unfollowed := true, recurses := true, apart := false, narrowed := true }
def FnFewestOfUptoSaid : Prop := fnFewestOfUptoRow.holds Try.pinned (OpenSpec.upto fnFewestOfSpec)

/-- 'laws.FnBestSet', WHERE WHAT IT READS IS OF BULK AT MOST 1048576: true; the input reads as it did. -/
def fnBestSetUptoRow : OpenClaim := { program := "ythfikgaghinfbaa", sum := "cd18b1fc181dfa77f6ed65260a3b75d04f5f45fb20dfed84ca6a5e80aba9dd53", func := "loop.example/manyvalues/laws.FnBestSet", spec := "fnBestSet", unfollowed := true, recurses := true, apart := false, narrowed := true }
def FnBestSetUptoSaid : Prop := fnBestSetUptoRow.holds Try.pinned (OpenSpec.upto fnBestSetSpec)

/-- 'laws.FnExactGameOk', WHERE WHAT IT READS IS OF BULK AT MOST 1048576: true; the input reads as it did. -/
def fnExactGameOkUptoRow : OpenClaim := { program := "ythfikgaghinfbaa", sum := "cd18b1fc181dfa77f6ed65260a3b75d04f5f45fb20dfed84ca6a5e80aba9dd53", func := "loop.example/manyvalues/laws.FnExactGameOk", spec := "fnExactGameOk", unfollowed := true, recurses := true, apart := false, narrowed := true }
def FnExactGameOkUptoSaid : Prop := fnExactGameOkUptoRow.holds Try.pinned (OpenSpec.upto fnExactGameOkSpec)

/-- 'laws.FnExactAnswerTo', WHERE WHAT IT READS IS OF BULK AT MOST 1048576: true; the input reads as it did. -/
def fnExactAnswerToUptoRow : OpenClaim := { program := "ythfikgaghinfbaa", sum := "cd18b1fc181dfa77f6ed65260a3b75d04f5f45fb20dfed84ca6a5e80aba9dd53", func := "loop.example/manyvalues/laws.FnExactAnswerTo", spec := "fnExactAnswerTo", unfollowed := true, recurses := true, apart := false, narrowed := true }
def FnExactAnswerToUptoSaid : Prop := fnExactAnswerToUptoRow.holds Try.pinned (OpenSpec.upto fnExactAnswerToSpec)

/-- 'laws.FnExactLeftOf', WHERE WHAT IT READS IS OF BULK AT MOST 1048576: true; the input reads as it did. -/
def fnExactLeftOfUptoRow : OpenClaim := { program := "ythfikgaghinfbaa", sum := "cd18b1fc181dfa77f6ed65260a3b75d04f5f45fb20dfed84ca6a5e80aba9dd53", func := "loop.example/manyvalues/laws.FnExactLeftOf", spec := "fnExactLeftOf", unfollowed := true, recurses := true, apart := false, narrowed := true }
def FnExactLeftOfUptoSaid : Prop := fnExactLeftOfUptoRow.holds Try.pinned (OpenSpec.upto fnExactLeftOfSpec)

/-- 'laws.FnExactWeightOf', WHERE WHAT IT READS IS OF BULK AT MOST 1048576: true; the input reads as it did. -/
def fnExactWeightOfUptoRow : OpenClaim := { program := "ythfikgaghinfbaa", sum := "cd18b1fc181dfa77f6ed65260a3b75d04f5f45fb20dfed84ca6a5e80aba9dd53", func := "loop.example/manyvalues/laws.FnExactWeightOf", spec := "fnExactWeightOf", unfollowed := true, recurses := true, apart := false, narrowed := true }
def FnExactWeightOfUptoSaid : Prop := fnExactWeightOfUptoRow.holds Try.pinned (OpenSpec.upto fnExactWeightOfSpec)

/-- 'laws.FnExactEnoughOk', WHERE WHAT IT READS IS OF BULK AT MOST 1048576: true; the input reads as it did. -/
def fnExactEnoughOkUptoRow : OpenClaim := { program := "ythfikgaghinfbaa", sum := "cd18b1fc181dfa77f6ed65260a3b75d04f5f45fb20dfed84ca6a5e80aba9dd53", func := "loop.example/manyvalues/laws.FnExactEnoughOk", spec := "fnExactEnoughOk", unfollowed := true, recurses := true, apart := false, narrowed := true }
def FnExactEnoughOkUptoSaid : Prop := fnExactEnoughOkUptoRow.holds Try.pinned (OpenSpec.upto fnExactEnoughOkSpec)

/-- 'laws.FnExactFewestOf', WHERE WHAT IT READS IS OF BULK AT MOST 1048576: true; the input reads as it did. -/
def fnExactFewestOfUptoRow : OpenClaim := { program := "ythfikgaghinfbaa", sum := "cd18b1fc181dfa77f6ed65260a3b75d04f5f45fb20dfed84ca6a5e80aba9dd53", func := "loop.example/manyvalues/laws.FnExactFewestOf", spec := "fnExactFewestOf", unfollowed := true, recurses := true, apart := false, narrowed := true }
def FnExactFewestOfUptoSaid : Prop := fnExactFewestOfUptoRow.holds Try.pinned (OpenSpec.upto fnExactFewestOfSpec)

/-- 'laws.FnExactBestSet', WHERE WHAT IT READS IS OF BULK AT MOST 1048576: true; the input reads as it did. -/
def fnExactBestSetUptoRow : OpenClaim := { program := "ythfikgaghinfbaa", sum := "cd18b1fc181dfa77f6ed65260a3b75d04f5f45fb20dfed84ca6a5e80aba9dd53", func := "loop.example/manyvalues/laws.FnExactBestSet", spec := "fnExactBestSet", unfollowed := true, recurses := true, apart := false, narrowed := true }
def FnExactBestSetUptoSaid : Prop := fnExactBestSetUptoRow.holds Try.pinned (OpenSpec.upto fnExactBestSetSpec)

end Rows
end Go.Proofs.Ythfikgaghinfbaa
