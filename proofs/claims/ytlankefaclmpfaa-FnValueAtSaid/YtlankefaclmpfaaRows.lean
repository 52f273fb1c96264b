/-
  No cell of these rows narrows 'for every input' (looked for: loops, veiled, ifaces, maps, wideKeys, modest, calm, conditions, laid).
  DERIVED. THE GIVEN ROWS OF THIS SEAT. 8 by the template 'for every input the law returns true; each argument reads behind the call as it read before'; 0 by the template 'total and deterministic' (their statements: YtlankefaclmpfaaTotals.lean).
  GIVEN WITH THE SEED: the statements are not yours to turn. If you find one false, say at which input.
  Laid BY PROGRAM, IN A SANDBOX (cutbox-rows.mjs): the forced cells as the released guide's own fill.sh prints them over the translation d0e1ce986f98a4fe… (all of the seat's roots in one cut). By AI agents, Wed Nov 11 2026. No macro, syntax, notation, axiom, sorry.
-/
import Derived.Test.YtlankefaclmpfaaChecked
import GoSem.Claim
import GoSem.ClaimJoined
import GoSem.ClaimMapViews
import Derived.JoinedTies
import Derived.KernelRfl
namespace Go.Proofs.Ytlankefaclmpfaa
/- THE CELL 'sum', in the pinned program and in every row, IS THE sha256 OF THE DUMP (.gsa) THAT YtlankefaclmpfaaProg.lean LOADS. Nothing in Lean hashes anything: it is a label: what it is worth is what the hold of that sum in a sandbox is worth. -/
noncomputable def Try.pinned : Pinned := { name := "ytlankefaclmpfaa", sum := "d0e1ce986f98a4fe1c836fce5a24fca3281e8ba5123c1404fc8daca38bdb8532", checked := Try.checked }
namespace Rows
def none {H : Type} : Left H := { results := [], args := [] }

/-- 'laws.FnFormulaOk': WHATEVER THE INPUT: true; the input reads as it did. -/
def fnFormulaOkSpec : ChangeSpec := { name := "fnFormulaOk", fn := fun _ => fun
  | [d] => { results := [.lit (.bool true)], args := [d] }
  | _ => none }
def fnFormulaOkRow : OpenClaim := { program := "ytlankefaclmpfaa", sum := "d0e1ce986f98a4fe1c836fce5a24fca3281e8ba5123c1404fc8daca38bdb8532", func := "loop.example/manyvalues/laws.FnFormulaOk", spec := "fnFormulaOk", recurses := true, apart := false }
def FnFormulaOkSaid : Prop := fnFormulaOkRow.holds Try.pinned (OpenSpec.ofChange fnFormulaOkSpec)

/-- ITS FALSE NEIGHBOUR: 'it returns false'. Refute it at one input. -/
def fnFormulaOkWrong : ChangeSpec := { name := "fnFormulaOk", fn := fun _ => fun
  | [d] => { results := [.lit (.bool false)], args := [d] }
  | _ => none }
def FnFormulaOkWrongFalsely : Prop := fnFormulaOkRow.holds Try.pinned (OpenSpec.ofChange fnFormulaOkWrong)

/-- 'laws.FnValueAt': WHATEVER THE INPUT: true; the input reads as it did. -/
def fnValueAtSpec : ChangeSpec := { name := "fnValueAt", fn := fun _ => fun
  | [d] => { results := [.lit (.bool true)], args := [d] }
  | _ => none }
def fnValueAtRow : OpenClaim := { program := "ytlankefaclmpfaa", sum := "d0e1ce986f98a4fe1c836fce5a24fca3281e8ba5123c1404fc8daca38bdb8532", func := "loop.example/manyvalues/laws.FnValueAt", spec := "fnValueAt", unfollowed := true, recurses := true, apart := false }
def FnValueAtSaid : Prop := fnValueAtRow.holds Try.pinned (OpenSpec.ofChange fnValueAtSpec)

/-- ITS FALSE NEIGHBOUR: 'it returns false'. Refute it at one input. -/
def fnValueAtWrong : ChangeSpec := { name := "fnValueAt", fn := fun _ => fun
  | [d] => { results := [.lit (.bool false)], args := [d] }
  | _ => none }
def FnValueAtWrongFalsely : Prop := fnValueAtRow.holds Try.pinned (OpenSpec.ofChange fnValueAtWrong)

/-- 'laws.FnBasicOf': WHATEVER THE INPUT: true; the input reads as it did. -/
def fnBasicOfSpec : ChangeSpec := { name := "fnBasicOf", fn := fun _ => fun
  | [d1, d2] => { results := [.lit (.bool true)], args := [d1, d2] }
  | _ => none }
def fnBasicOfRow : OpenClaim := { program := "ytlankefaclmpfaa", sum := "d0e1ce986f98a4fe1c836fce5a24fca3281e8ba5123c1404fc8daca38bdb8532", func := "loop.example/manyvalues/laws.FnBasicOf", spec := "fnBasicOf", unfollowed := true, recurses := true, apart := false }
def FnBasicOfSaid : Prop := fnBasicOfRow.holds Try.pinned (OpenSpec.ofChange fnBasicOfSpec)

/-- ITS FALSE NEIGHBOUR: 'it returns false'. Refute it at one input. -/
def fnBasicOfWrong : ChangeSpec := { name := "fnBasicOf", fn := fun _ => fun
  | [d1, d2] => { results := [.lit (.bool false)], args := [d1, d2] }
  | _ => none }
def FnBasicOfWrongFalsely : Prop := fnBasicOfRow.holds Try.pinned (OpenSpec.ofChange fnBasicOfWrong)

/-- 'laws.FnLettersIn': WHATEVER THE INPUT: true; the input reads as it did. -/
def fnLettersInSpec : ChangeSpec := { name := "fnLettersIn", fn := fun _ => fun
  | [d] => { results := [.lit (.bool true)], args := [d] }
  | _ => none }
def fnLettersInRow : OpenClaim := { program := "ytlankefaclmpfaa", sum := "d0e1ce986f98a4fe1c836fce5a24fca3281e8ba5123c1404fc8daca38bdb8532", func := "loop.example/manyvalues/laws.FnLettersIn", spec := "fnLettersIn", unfollowed := true, recurses := true, apart := false }
def FnLettersInSaid : Prop := fnLettersInRow.holds Try.pinned (OpenSpec.ofChange fnLettersInSpec)

/-- ITS FALSE NEIGHBOUR: 'it returns false'. Refute it at one input. -/
def fnLettersInWrong : ChangeSpec := { name := "fnLettersIn", fn := fun _ => fun
  | [d] => { results := [.lit (.bool false)], args := [d] }
  | _ => none }
def FnLettersInWrongFalsely : Prop := fnLettersInRow.holds Try.pinned (OpenSpec.ofChange fnLettersInWrong)

/-- 'laws.FnExactFormulaOk': WHATEVER THE INPUT: true; the input reads as it did. -/
def fnExactFormulaOkSpec : ChangeSpec := { name := "fnExactFormulaOk", fn := fun _ => fun
  | [d] => { results := [.lit (.bool true)], args := [d] }
  | _ => none }
def fnExactFormulaOkRow : OpenClaim := { program := "ytlankefaclmpfaa", sum := "d0e1ce986f98a4fe1c836fce5a24fca3281e8ba5123c1404fc8daca38bdb8532", func := "loop.example/manyvalues/laws.FnExactFormulaOk", spec := "fnExactFormulaOk", recurses := true, apart := false }
def FnExactFormulaOkSaid : Prop := fnExactFormulaOkRow.holds Try.pinned (OpenSpec.ofChange fnExactFormulaOkSpec)

/-- ITS FALSE NEIGHBOUR: 'it returns false'. Refute it at one input. -/
def fnExactFormulaOkWrong : ChangeSpec := { name := "fnExactFormulaOk", fn := fun _ => fun
  | [d] => { results := [.lit (.bool false)], args := [d] }
  | _ => none }
def FnExactFormulaOkWrongFalsely : Prop := fnExactFormulaOkRow.holds Try.pinned (OpenSpec.ofChange fnExactFormulaOkWrong)

/-- 'laws.FnExactValueAt': WHATEVER THE INPUT: true; the input reads as it did. -/
def fnExactValueAtSpec : ChangeSpec := { name := "fnExactValueAt", fn := fun _ => fun
  | [d1, d2, d3, d4, d5] => { results := [.lit (.bool true)], args := [d1, d2, d3, d4, d5] }
  | _ => none }
def fnExactValueAtRow : OpenClaim := { program := "ytlankefaclmpfaa", sum := "d0e1ce986f98a4fe1c836fce5a24fca3281e8ba5123c1404fc8daca38bdb8532", func := "loop.example/manyvalues/laws.FnExactValueAt", spec := "fnExactValueAt", unfollowed := true, recurses := true, apart := false }
def FnExactValueAtSaid : Prop := fnExactValueAtRow.holds Try.pinned (OpenSpec.ofChange fnExactValueAtSpec)

/-- ITS FALSE NEIGHBOUR: 'it returns false'. Refute it at one input. -/
def fnExactValueAtWrong : ChangeSpec := { name := "fnExactValueAt", fn := fun _ => fun
  | [d1, d2, d3, d4, d5] => { results := [.lit (.bool false)], args := [d1, d2, d3, d4, d5] }
  | _ => none }
def FnExactValueAtWrongFalsely : Prop := fnExactValueAtRow.holds Try.pinned (OpenSpec.ofChange fnExactValueAtWrong)

/-- 'laws.FnExactBasicOf': WHATEVER THE INPUT: true; the input reads as it did. -/
def fnExactBasicOfSpec : ChangeSpec := { name := "fnExactBasicOf", fn := fun _ => fun
  | [d] => { results := [.lit (.bool true)], args := [d] }
  | _ => none }
def fnExactBasicOfRow : OpenClaim := { program := "ytlankefaclmpfaa", sum := "d0e1ce986f98a4fe1c836fce5a24fca3281e8ba5123c1404fc8daca38bdb8532", func := "loop.example/manyvalues/laws.FnExactBasicOf", spec := "fnExactBasicOf", unfollowed := true, recurses := true, apart := false }
def FnExactBasicOfSaid : Prop := fnExactBasicOfRow.holds Try.pinned (OpenSpec.ofChange fnExactBasicOfSpec)

/-- ITS FALSE NEIGHBOUR: 'it returns false'. Refute it at one input. -/
def fnExactBasicOfWrong : ChangeSpec := { name := "fnExactBasicOf", fn := fun _ => fun
  | [d] => { results := [.lit (.bool false)], args := [d] }
  | _ => none }
def FnExactBasicOfWrongFalsely : Prop := fnExactBasicOfRow.holds Try.pinned (OpenSpec.ofChange fnExactBasicOfWrong)

/-- 'laws.FnExactLettersIn': WHATEVER THE INPUT: true; the input reads as it did. -/
def fnExactLettersInSpec : ChangeSpec := { name := "fnExactLettersIn", fn := fun _ => fun
  | [d] => { results := [.lit (.bool true)], args := [d] }
  | _ => none }
def fnExactLettersInRow : OpenClaim := { program := "ytlankefaclmpfaa", sum := "d0e1ce986f98a4fe1c836fce5a24fca3281e8ba5123c1404fc8daca38bdb8532", func := "loop.example/manyvalues/laws.FnExactLettersIn", spec := "fnExactLettersIn", unfollowed := true, recurses := true, apart := false }
def FnExactLettersInSaid : Prop := fnExactLettersInRow.holds Try.pinned (OpenSpec.ofChange fnExactLettersInSpec)

/-- ITS FALSE NEIGHBOUR: 'it returns false'. Refute it at one input. -/
def fnExactLettersInWrong : ChangeSpec := { name := "fnExactLettersIn", fn := fun _ => fun
  | [d] => { results := [.lit (.bool false)], args := [d] }
  | _ => none }
def FnExactLettersInWrongFalsely : Prop := fnExactLettersInRow.holds Try.pinned (OpenSpec.ofChange fnExactLettersInWrong)

/- THE SECOND FORM. 'bulk': how many values and letters a reading holds, each counted each time it is reached (what is shared counts as often as it is met; a slice's spare places count too). A statement '..UptoSaid' is the law's where the arguments, and the package variables that the reading takes, are together of bulk at most 1048576: NARROWER than '..Said'. Prove '..Said' where nothing that the law and all that it calls make is longer than what came in: it says more and counts as full. Else prove '..UptoSaid'. A law counts once. -/
mutual
def uptoBulk {H : Type} : DataW H → Nat
  | .lit (.string bytes) => bytes.length + 1
  | .lit _ => 1
  | .nil => 1
  | .ptr d => uptoBulk d + 1
  | .slice elems spare => uptoBulkAll elems + uptoBulkAll spare + 1
  | .agg parts => uptoBulkAll parts + 1
  | .iface _ d => uptoBulk d + 1
  | .map entries => uptoBulkEntries entries + 1
  | .held _ => 1
def uptoBulkAll {H : Type} : List (DataW H) → Nat
  | [] => 0
  | d :: r => uptoBulk d + uptoBulkAll r
def uptoBulkEntries {H : Type} : List (Lit × DataW H) → Nat
  | [] => 0
  | x :: r => uptoBulkEntry x + uptoBulkEntries r
def uptoBulkEntry {H : Type} : Lit × DataW H → Nat
  | (.string bytes, d) => bytes.length + uptoBulk d + 1
  | (_, d) => uptoBulk d + 1
 end
def uptoSmall : (H : Type) → List (DataW H) → Bool := fun _ ds => decide (uptoBulkAll ds ≤ 1048576)
def OpenSpec.upto (s : _root_.Go.ChangeSpec) : _root_.Go.OpenSpec := { _root_.Go.OpenSpec.ofChange s with cond := some uptoSmall }

/-- 'laws.FnFormulaOk', WHERE WHAT IT READS IS OF BULK AT MOST 1048576: true; the input reads as it did. -/
def fnFormulaOkUptoRow : OpenClaim := { program := "ytlankefaclmpfaa", sum := "d0e1ce986f98a4fe1c836fce5a24fca3281e8ba5123c1404fc8daca38bdb8532", func := "loop.example/manyvalues/laws.FnFormulaOk", spec := "fnFormulaOk", recurses := true, apart := false, narrowed := true }
def FnFormulaOkUptoSaid : Prop := fnFormulaOkUptoRow.holds Try.pinned (OpenSpec.upto fnFormulaOkSpec)

/-- 'laws.FnValueAt', WHERE WHAT IT READS IS OF BULK AT MOST 1048576: true; the input reads as it did. -/
def fnValueAtUptoRow : OpenClaim := { program := "ytlankefaclmpfaa", sum := "d0e1ce986f98a4fe1c836fce5a24fca3281e8ba5123c1404fc8daca38bdb8532", func := "loop.example/manyvalues/laws.FnValueAt", spec := "fnValueAt", unfollowed := true, recurses := true, apart := false, narrowed := true }
def FnValueAtUptoSaid : Prop := fnValueAtUptoRow.holds Try.pinned (OpenSpec.upto fnValueAtSpec)

/-- 'laws.FnBasicOf', WHERE WHAT IT READS IS OF BULK AT MOST 1048576: true; the input reads as it did. -/
def fnBasicOfUptoRow : OpenClaim := { program := "ytlankefaclmpfaa", sum := "d0e1ce986f98a4fe1c836fce5a24fca3281e8ba5123c1404fc8daca38bdb8532", func := "loop.example/manyvalues/laws.FnBasicOf", spec := "fnBasicOf", unfollowed := true, recurses := true, apart := false, narrowed := true }
def FnBasicOfUptoSaid : Prop := fnBasicOfUptoRow.holds Try.pinned (OpenSpec.upto fnBasicOfSpec)

/-- 'laws.FnLettersIn', WHERE WHAT IT READS IS OF BULK AT MOST 1048576: true; the input reads as it did. -/
def fnLettersInUptoRow : OpenClaim := { program := "ytlankefaclmpfaa", sum := "d0e1ce986f98a4fe1c836fce5a24fca3281e8ba5123c1404fc8daca38bdb8532", func := "loop.example/manyvalues/laws.FnLettersIn", spec := "fnLettersIn", unfollowed := true, recurses := true, apart := false, narrowed := true }
def FnLettersInUptoSaid : Prop := fnLettersInUptoRow.holds Try.pinned (OpenSpec.upto fnLettersInSpec)

/-- 'laws.FnExactFormulaOk', WHERE WHAT IT READS IS OF BULK AT MOST 1048576: true; the input reads as it did. -/
def fnExactFormulaOkUptoRow : OpenClaim := { program := "ytlankefaclmpfaa", sum := "d0e1ce986f98a4fe1c836fce5a24fca3281e8ba5123c1404fc8daca38bdb8532", func := "loop.example/manyvalues/laws.FnExactFormulaOk", spec := "fnExactFormulaOk", recurses := true, apart := false, narrowed := true }
def FnExactFormulaOkUptoSaid : Prop := fnExactFormulaOkUptoRow.holds Try.pinned (OpenSpec.upto fnExactFormulaOkSpec)

/-- 'laws.FnExactValueAt', WHERE WHAT IT READS IS OF BULK AT MOST 1048576: true; the input reads as it did. -/
def fnExactValueAtUptoRow : OpenClaim := { program := "ytlankefaclmpfaa", sum := "d0e1ce986f98a4fe1c836fce5a24fca3281e8ba5123c1404fc8daca38bdb8532", func := "loop.example/manyvalues/laws.FnExactValueAt", spec := "fnExactValueAt", unfollowed := true, recurses := true, apart := false, narrowed := true }
def FnExactValueAtUptoSaid : Prop := fnExactValueAtUptoRow.holds Try.pinned (OpenSpec.upto fnExactValueAtSpec)

/-- 'laws.FnExactBasicOf', WHERE WHAT IT READS IS OF BULK AT MOST 1048576: true; the input reads as it did. -/
def fnExactBasicOfUptoRow : OpenClaim := { program := "ytlankefaclmpfaa", sum := "d0e1ce986f98a4fe1c836fce5a24fca3281e8ba5123c1404fc8daca38bdb8532", func := "loop.example/manyvalues/laws.FnExactBasicOf", spec := "fnExactBasicOf", unfollowed := true, recurses := true, apart := false, narrowed := true }
def FnExactBasicOfUptoSaid : Prop := fnExactBasicOfUptoRow.holds Try.pinned (OpenSpec.upto fnExactBasicOfSpec)

/-- 'laws.FnExactLettersIn', WHERE WHAT IT READS IS OF BULK AT MOST 1048576: true; the input reads as it did. -/
def fnExactLettersInUptoRow : OpenClaim := { program := "ytlankefaclmpfaa", sum := "d0e1ce986f98a4fe1c836fce5a24fca3281e8ba5123c1404fc8daca38bdb8532", func := "loop.example/manyvalues/laws.FnExactLettersIn", spec := "fnExactLettersIn", unfollowed := true, recurses := true, apart := false, narrowed := true }
def FnExactLettersInUptoSaid : Prop := fnExactLettersInUptoRow.holds Try.pinned (OpenSpec.upto fnExactLettersInSpec)

end Rows
end Go.Proofs.Ytlankefaclmpfaa
