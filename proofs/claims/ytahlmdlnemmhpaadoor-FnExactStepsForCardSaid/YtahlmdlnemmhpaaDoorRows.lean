/-
  NARROWER THAN 'FOR EVERY INPUT', by the rows' own cells (each row's printed sentence says how): FnClosedOk: laid · FnMadeBy: laid · FnChainWithin: laid · FnClosedSets: laid · FnStepsFor: laid · FnExactClosedOk: laid · FnExactMadeBy: laid · FnExactClosedSets: laid · FnExactStepsFor: laid.
  DERIVED. THE GIVEN ROWS OF THIS SEAT. 9 by the template 'for every input the law returns true; each argument reads behind the call as it read before'; 0 by the template 'total and deterministic' (their statements: YtahlmdlnemmhpaaDoorTotals.lean).
  GIVEN WITH THE SEED: the statements are not yours to turn. If you find one false, say at which input.
  Laid BY PROGRAM, IN A SANDBOX (cutbox-rows.mjs): the forced cells as the released guide's own fill.sh prints them over the translation 98c45e0517486154… (all of the seat's roots in one cut). By AI agents, Wed Nov 11 2026. No macro, syntax, notation, axiom, sorry.
-/
import Derived.Test.YtahlmdlnemmhpaaDoorChecked
import GoSem.Claim
import GoSem.ClaimJoined
import GoSem.ClaimMapViews
import Derived.JoinedTies
import Derived.KernelRfl
namespace Go.Proofs.YtahlmdlnemmhpaaDoor
/- THE CELL 'sum', in the pinned program and in every row, IS THE sha256 OF THE DUMP (.gsa) THAT YtahlmdlnemmhpaaDoorProg.lean LOADS. Nothing in Lean hashes anything: it is a label: what it is worth is what the hold of that sum in a sandbox is worth. -/
noncomputable def Tryd.pinned : Pinned := { name := "ytahlmdlnemmhpaadoor", sum := "98c45e051748615455155aa820d38f9a10f87a5ddcb2d321375cff163b6af72d", checked := Tryd.checked }
namespace Rows
def none {H : Type} : Left H := { results := [], args := [] }

/- WHAT THE LISTED PACKAGE-LEVEL VARIABLES READ AS WHEN THE CALL BEGINS. Each datum BY PROGRAM (the guide's laid-datum.mjs) off the statement by which the dump's own 'gosem.cut.vars' lays the variable. In a bare row this is a premise. The card (YtahlmdlnemmhpaaDoorCards.lean) ties it to the program's text. -/
def laid_math_bits_deBruijn32tab {H : Type} : DataW H := .agg [.lit (.int .u8 0), .lit (.int .u8 1), .lit (.int .u8 28), .lit (.int .u8 2), .lit (.int .u8 29), .lit (.int .u8 14), .lit (.int .u8 24), .lit (.int .u8 3), .lit (.int .u8 30), .lit (.int .u8 22), .lit (.int .u8 20), .lit (.int .u8 15), .lit (.int .u8 25), .lit (.int .u8 17), .lit (.int .u8 4), .lit (.int .u8 8), .lit (.int .u8 31), .lit (.int .u8 27), .lit (.int .u8 13), .lit (.int .u8 23), .lit (.int .u8 21), .lit (.int .u8 19), .lit (.int .u8 16), .lit (.int .u8 7), .lit (.int .u8 26), .lit (.int .u8 12), .lit (.int .u8 18), .lit (.int .u8 6), .lit (.int .u8 11), .lit (.int .u8 5), .lit (.int .u8 10), .lit (.int .u8 9)]
def laid_math_bits_deBruijn64tab {H : Type} : DataW H := .agg [.lit (.int .u8 0), .lit (.int .u8 1), .lit (.int .u8 56), .lit (.int .u8 2), .lit (.int .u8 57), .lit (.int .u8 49), .lit (.int .u8 28), .lit (.int .u8 3), .lit (.int .u8 61), .lit (.int .u8 58), .lit (.int .u8 42), .lit (.int .u8 50), .lit (.int .u8 38), .lit (.int .u8 29), .lit (.int .u8 17), .lit (.int .u8 4), .lit (.int .u8 62), .lit (.int .u8 47), .lit (.int .u8 59), .lit (.int .u8 36), .lit (.int .u8 45), .lit (.int .u8 43), .lit (.int .u8 51), .lit (.int .u8 22), .lit (.int .u8 53), .lit (.int .u8 39), .lit (.int .u8 33), .lit (.int .u8 30), .lit (.int .u8 24), .lit (.int .u8 18), .lit (.int .u8 12), .lit (.int .u8 5), .lit (.int .u8 63), .lit (.int .u8 55), .lit (.int .u8 48), .lit (.int .u8 27), .lit (.int .u8 60), .lit (.int .u8 41), .lit (.int .u8 37), .lit (.int .u8 16), .lit (.int .u8 46), .lit (.int .u8 35), .lit (.int .u8 44), .lit (.int .u8 21), .lit (.int .u8 52), .lit (.int .u8 32), .lit (.int .u8 23), .lit (.int .u8 11), .lit (.int .u8 54), .lit (.int .u8 26), .lit (.int .u8 40), .lit (.int .u8 15), .lit (.int .u8 34), .lit (.int .u8 20), .lit (.int .u8 31), .lit (.int .u8 10), .lit (.int .u8 25), .lit (.int .u8 14), .lit (.int .u8 19), .lit (.int .u8 9), .lit (.int .u8 13), .lit (.int .u8 8), .lit (.int .u8 7), .lit (.int .u8 6)]

/-- 'laws.FnClosedOk': WHATEVER THE INPUT: true; the input reads as it did. -/
def fnClosedOkSpec : ChangeSpec := { name := "fnClosedOk", fn := fun _ => fun
  | [d] => { results := [.lit (.bool true)], args := [d] }
  | _ => none }
def fnClosedOkRow : OpenClaim := { program := "ytahlmdlnemmhpaadoor", sum := "98c45e051748615455155aa820d38f9a10f87a5ddcb2d321375cff163b6af72d", func := "loop.example/manyvalues/laws.FnClosedOk", spec := "fnClosedOk", unfollowed := true, recurses := true, named := ["math/bits.deBruijn32tab", "math/bits.deBruijn64tab"], plainKeys := false, apart := false, laid := [("math/bits.deBruijn32tab", laid_math_bits_deBruijn32tab), ("math/bits.deBruijn64tab", laid_math_bits_deBruijn64tab)] }
def FnClosedOkSaid : Prop := fnClosedOkRow.holds Tryd.pinned (OpenSpec.ofChange fnClosedOkSpec)

/-- ITS FALSE NEIGHBOUR: 'it returns false'. Refute it at one input. -/
def fnClosedOkWrong : ChangeSpec := { name := "fnClosedOk", fn := fun _ => fun
  | [d] => { results := [.lit (.bool false)], args := [d] }
  | _ => none }
def FnClosedOkWrongFalsely : Prop := fnClosedOkRow.holds Tryd.pinned (OpenSpec.ofChange fnClosedOkWrong)

/-- 'laws.FnMadeBy': WHATEVER THE INPUT: true; the input reads as it did. -/
def fnMadeBySpec : ChangeSpec := { name := "fnMadeBy", fn := fun _ => fun
  | [d] => { results := [.lit (.bool true)], args := [d] }
  | _ => none }
def fnMadeByRow : OpenClaim := { program := "ytahlmdlnemmhpaadoor", sum := "98c45e051748615455155aa820d38f9a10f87a5ddcb2d321375cff163b6af72d", func := "loop.example/manyvalues/laws.FnMadeBy", spec := "fnMadeBy", unfollowed := true, recurses := true, named := ["math/bits.deBruijn32tab", "math/bits.deBruijn64tab"], plainKeys := false, apart := false, laid := [("math/bits.deBruijn32tab", laid_math_bits_deBruijn32tab), ("math/bits.deBruijn64tab", laid_math_bits_deBruijn64tab)] }
def FnMadeBySaid : Prop := fnMadeByRow.holds Tryd.pinned (OpenSpec.ofChange fnMadeBySpec)

/-- ITS FALSE NEIGHBOUR: 'it returns false'. Refute it at one input. -/
def fnMadeByWrong : ChangeSpec := { name := "fnMadeBy", fn := fun _ => fun
  | [d] => { results := [.lit (.bool false)], args := [d] }
  | _ => none }
def FnMadeByWrongFalsely : Prop := fnMadeByRow.holds Tryd.pinned (OpenSpec.ofChange fnMadeByWrong)

/-- 'laws.FnChainWithin': WHATEVER THE INPUT: true; the input reads as it did. -/
def fnChainWithinSpec : ChangeSpec := { name := "fnChainWithin", fn := fun _ => fun
  | [d] => { results := [.lit (.bool true)], args := [d] }
  | _ => none }
def fnChainWithinRow : OpenClaim := { program := "ytahlmdlnemmhpaadoor", sum := "98c45e051748615455155aa820d38f9a10f87a5ddcb2d321375cff163b6af72d", func := "loop.example/manyvalues/laws.FnChainWithin", spec := "fnChainWithin", unfollowed := true, recurses := true, named := ["math/bits.deBruijn32tab", "math/bits.deBruijn64tab"], plainKeys := false, apart := false, laid := [("math/bits.deBruijn32tab", laid_math_bits_deBruijn32tab), ("math/bits.deBruijn64tab", laid_math_bits_deBruijn64tab)] }
def FnChainWithinSaid : Prop := fnChainWithinRow.holds Tryd.pinned (OpenSpec.ofChange fnChainWithinSpec)

/-- ITS FALSE NEIGHBOUR: 'it returns false'. Refute it at one input. -/
def fnChainWithinWrong : ChangeSpec := { name := "fnChainWithin", fn := fun _ => fun
  | [d] => { results := [.lit (.bool false)], args := [d] }
  | _ => none }
def FnChainWithinWrongFalsely : Prop := fnChainWithinRow.holds Tryd.pinned (OpenSpec.ofChange fnChainWithinWrong)

/-- 'laws.FnClosedSets': WHATEVER THE INPUT: true; the input reads as it did. -/
def fnClosedSetsSpec : ChangeSpec := { name := "fnClosedSets", fn := fun _ => fun
  | [d] => { results := [.lit (.bool true)], args := [d] }
  | _ => none }
def fnClosedSetsRow : OpenClaim := { program := "ytahlmdlnemmhpaadoor", sum := "98c45e051748615455155aa820d38f9a10f87a5ddcb2d321375cff163b6af72d", func := "loop.example/manyvalues/laws.FnClosedSets", spec := "fnClosedSets", unfollowed := true, recurses := true, named := ["math/bits.deBruijn32tab", "math/bits.deBruijn64tab"], plainKeys := false, apart := false, laid := [("math/bits.deBruijn32tab", laid_math_bits_deBruijn32tab), ("math/bits.deBruijn64tab", laid_math_bits_deBruijn64tab)] }
def FnClosedSetsSaid : Prop := fnClosedSetsRow.holds Tryd.pinned (OpenSpec.ofChange fnClosedSetsSpec)

/-- ITS FALSE NEIGHBOUR: 'it returns false'. Refute it at one input. -/
def fnClosedSetsWrong : ChangeSpec := { name := "fnClosedSets", fn := fun _ => fun
  | [d] => { results := [.lit (.bool false)], args := [d] }
  | _ => none }
def FnClosedSetsWrongFalsely : Prop := fnClosedSetsRow.holds Tryd.pinned (OpenSpec.ofChange fnClosedSetsWrong)

/-- 'laws.FnStepsFor': WHATEVER THE INPUT: true; the input reads as it did. -/
def fnStepsForSpec : ChangeSpec := { name := "fnStepsFor", fn := fun _ => fun
  | [d] => { results := [.lit (.bool true)], args := [d] }
  | _ => none }
def fnStepsForRow : OpenClaim := { program := "ytahlmdlnemmhpaadoor", sum := "98c45e051748615455155aa820d38f9a10f87a5ddcb2d321375cff163b6af72d", func := "loop.example/manyvalues/laws.FnStepsFor", spec := "fnStepsFor", unfollowed := true, recurses := true, named := ["math/bits.deBruijn32tab", "math/bits.deBruijn64tab"], plainKeys := false, apart := false, laid := [("math/bits.deBruijn32tab", laid_math_bits_deBruijn32tab), ("math/bits.deBruijn64tab", laid_math_bits_deBruijn64tab)] }
def FnStepsForSaid : Prop := fnStepsForRow.holds Tryd.pinned (OpenSpec.ofChange fnStepsForSpec)

/-- ITS FALSE NEIGHBOUR: 'it returns false'. Refute it at one input. -/
def fnStepsForWrong : ChangeSpec := { name := "fnStepsFor", fn := fun _ => fun
  | [d] => { results := [.lit (.bool false)], args := [d] }
  | _ => none }
def FnStepsForWrongFalsely : Prop := fnStepsForRow.holds Tryd.pinned (OpenSpec.ofChange fnStepsForWrong)

/-- 'laws.FnExactClosedOk': WHATEVER THE INPUT: true; the input reads as it did. -/
def fnExactClosedOkSpec : ChangeSpec := { name := "fnExactClosedOk", fn := fun _ => fun
  | [d1, d2] => { results := [.lit (.bool true)], args := [d1, d2] }
  | _ => none }
def fnExactClosedOkRow : OpenClaim := { program := "ytahlmdlnemmhpaadoor", sum := "98c45e051748615455155aa820d38f9a10f87a5ddcb2d321375cff163b6af72d", func := "loop.example/manyvalues/laws.FnExactClosedOk", spec := "fnExactClosedOk", unfollowed := true, recurses := true, named := ["math/bits.deBruijn32tab", "math/bits.deBruijn64tab"], plainKeys := false, apart := false, laid := [("math/bits.deBruijn32tab", laid_math_bits_deBruijn32tab), ("math/bits.deBruijn64tab", laid_math_bits_deBruijn64tab)] }
def FnExactClosedOkSaid : Prop := fnExactClosedOkRow.holds Tryd.pinned (OpenSpec.ofChange fnExactClosedOkSpec)

/-- ITS FALSE NEIGHBOUR: 'it returns false'. Refute it at one input. -/
def fnExactClosedOkWrong : ChangeSpec := { name := "fnExactClosedOk", fn := fun _ => fun
  | [d1, d2] => { results := [.lit (.bool false)], args := [d1, d2] }
  | _ => none }
def FnExactClosedOkWrongFalsely : Prop := fnExactClosedOkRow.holds Tryd.pinned (OpenSpec.ofChange fnExactClosedOkWrong)

/-- 'laws.FnExactMadeBy': WHATEVER THE INPUT: true; the input reads as it did. -/
def fnExactMadeBySpec : ChangeSpec := { name := "fnExactMadeBy", fn := fun _ => fun
  | [d1, d2] => { results := [.lit (.bool true)], args := [d1, d2] }
  | _ => none }
def fnExactMadeByRow : OpenClaim := { program := "ytahlmdlnemmhpaadoor", sum := "98c45e051748615455155aa820d38f9a10f87a5ddcb2d321375cff163b6af72d", func := "loop.example/manyvalues/laws.FnExactMadeBy", spec := "fnExactMadeBy", unfollowed := true, recurses := true, named := ["math/bits.deBruijn32tab", "math/bits.deBruijn64tab"], plainKeys := false, apart := false, laid := [("math/bits.deBruijn32tab", laid_math_bits_deBruijn32tab), ("math/bits.deBruijn64tab", laid_math_bits_deBruijn64tab)] }
def FnExactMadeBySaid : Prop := fnExactMadeByRow.holds Tryd.pinned (OpenSpec.ofChange fnExactMadeBySpec)

/-- ITS FALSE NEIGHBOUR: 'it returns false'. Refute it at one input. -/
def fnExactMadeByWrong : ChangeSpec := { name := "fnExactMadeBy", fn := fun _ => fun
  | [d1, d2] => { results := [.lit (.bool false)], args := [d1, d2] }
  | _ => none }
def FnExactMadeByWrongFalsely : Prop := fnExactMadeByRow.holds Tryd.pinned (OpenSpec.ofChange fnExactMadeByWrong)

/-- 'laws.FnExactClosedSets': WHATEVER THE INPUT: true; the input reads as it did. -/
def fnExactClosedSetsSpec : ChangeSpec := { name := "fnExactClosedSets", fn := fun _ => fun
  | [d] => { results := [.lit (.bool true)], args := [d] }
  | _ => none }
def fnExactClosedSetsRow : OpenClaim := { program := "ytahlmdlnemmhpaadoor", sum := "98c45e051748615455155aa820d38f9a10f87a5ddcb2d321375cff163b6af72d", func := "loop.example/manyvalues/laws.FnExactClosedSets", spec := "fnExactClosedSets", unfollowed := true, recurses := true, named := ["math/bits.deBruijn32tab", "math/bits.deBruijn64tab"], plainKeys := false, apart := false, laid := [("math/bits.deBruijn32tab", laid_math_bits_deBruijn32tab), ("math/bits.deBruijn64tab", laid_math_bits_deBruijn64tab)] }
def FnExactClosedSetsSaid : Prop := fnExactClosedSetsRow.holds Tryd.pinned (OpenSpec.ofChange fnExactClosedSetsSpec)

/-- ITS FALSE NEIGHBOUR: 'it returns false'. Refute it at one input. -/
def fnExactClosedSetsWrong : ChangeSpec := { name := "fnExactClosedSets", fn := fun _ => fun
  | [d] => { results := [.lit (.bool false)], args := [d] }
  | _ => none }
def FnExactClosedSetsWrongFalsely : Prop := fnExactClosedSetsRow.holds Tryd.pinned (OpenSpec.ofChange fnExactClosedSetsWrong)

/-- 'laws.FnExactStepsFor': WHATEVER THE INPUT: true; the input reads as it did. -/
def fnExactStepsForSpec : ChangeSpec := { name := "fnExactStepsFor", fn := fun _ => fun
  | [d1, d2] => { results := [.lit (.bool true)], args := [d1, d2] }
  | _ => none }
def fnExactStepsForRow : OpenClaim := { program := "ytahlmdlnemmhpaadoor", sum := "98c45e051748615455155aa820d38f9a10f87a5ddcb2d321375cff163b6af72d", func := "loop.example/manyvalues/laws.FnExactStepsFor", spec := "fnExactStepsFor", unfollowed := true, recurses := true, named := ["math/bits.deBruijn32tab", "math/bits.deBruijn64tab"], plainKeys := false, apart := false, laid := [("math/bits.deBruijn32tab", laid_math_bits_deBruijn32tab), ("math/bits.deBruijn64tab", laid_math_bits_deBruijn64tab)] }
def FnExactStepsForSaid : Prop := fnExactStepsForRow.holds Tryd.pinned (OpenSpec.ofChange fnExactStepsForSpec)

/-- ITS FALSE NEIGHBOUR: 'it returns false'. Refute it at one input. -/
def fnExactStepsForWrong : ChangeSpec := { name := "fnExactStepsFor", fn := fun _ => fun
  | [d1, d2] => { results := [.lit (.bool false)], args := [d1, d2] }
  | _ => none }
def FnExactStepsForWrongFalsely : Prop := fnExactStepsForRow.holds Tryd.pinned (OpenSpec.ofChange fnExactStepsForWrong)

/- THE SECOND FORM. 'bulk': how many values and letters a reading holds, each counted each time it is reached (what is shared counts as often as it is met; a slice's spare places count too). A statement '..UptoSaid' is the law's where the arguments, and the package variables that the reading takes, are together of bulk at most 1048576: NARROWER than '..Said'. Prove '..Said' where nothing that the law and all that it calls make is longer than what came in: it says more and counts as full. Else prove '..UptoSaid'. A law counts once. -/
mutual
def uptoBulk {H : Type} : DataW H → Nat
  | .lit (.string bytes) => bytes.length + 1
  | .lit _ => 1
  | .nil => 1
  | .ptr d => uptoBulk d + 1
  | .slice elems spare => uptoBulkAll elems + uptoBulkAll spare + 1
  | .agg parts => uptoBulkAll parts + 1
  | .iface _ d => uptoBulk d + 1
  | .map entries => uptoBulkEntries entries + 1
  | .held _ => 1
def uptoBulkAll {H : Type} : List (DataW H) → Nat
  | [] => 0
  | d :: r => uptoBulk d + uptoBulkAll r
def uptoBulkEntries {H : Type} : List (Lit × DataW H) → Nat
  | [] => 0
  | x :: r => uptoBulkEntry x + uptoBulkEntries r
def uptoBulkEntry {H : Type} : Lit × DataW H → Nat
  | (.string bytes, d) => bytes.length + uptoBulk d + 1
  | (_, d) => uptoBulk d + 1
 end
def uptoSmall : (H : Type) → List (DataW H) → Bool := fun _ ds => decide (uptoBulkAll ds ≤ 1048576)
def OpenSpec.upto (s : _root_.Go.ChangeSpec) : _root_.Go.OpenSpec := { _root_.Go.OpenSpec.ofChange s with cond := some uptoSmall }

/-- 'laws.FnClosedOk', WHERE WHAT IT READS IS OF BULK AT MOST 1048576: true; the input reads as it did. -/
def fnClosedOkUptoRow : OpenClaim := { program := "ytahlmdlnemmhpaadoor", sum := "98c45e051748615455155aa820d38f9a10f87a5ddcb2d321375cff163b6af72d", func := "loop.example/manyvalues/laws.FnClosedOk", spec := "fnClosedOk", unfollowed := true, recurses := true, named := ["math/bits.deBruijn32tab", "math/bits.deBruijn64tab"], plainKeys := false, apart := false, laid := [("math/bits.deBruijn32tab", laid_math_bits_deBruijn32tab), ("math/bits.deBruijn64tab", laid_math_bits_deBruijn64tab)], narrowed := true }
def FnClosedOkUptoSaid : Prop := fnClosedOkUptoRow.holds Tryd.pinned (OpenSpec.upto fnClosedOkSpec)

/-- 'laws.FnMadeBy', WHERE WHAT IT READS IS OF BULK AT MOST 1048576: true; the input reads as it did. -/
def fnMadeByUptoRow : OpenClaim := { program := "ytahlmdlnemmhpaadoor", sum := "98c45e051748615455155aa820d38f9a10f87a5ddcb2d321375cff163b6af72d", func := "loop.example/manyvalues/laws.FnMadeBy", spec := "fnMadeBy", unfollowed := true, recurses := true, named := ["math/bits.deBruijn32tab", "math/bits.deBruijn64tab"], plainKeys := false, apart := false, laid := [("math/bits.deBruijn32tab", laid_math_bits_deBruijn32tab), ("math/bits.deBruijn64tab", laid_math_bits_deBruijn64tab)], narrowed := true }
def FnMadeByUptoSaid : Prop := fnMadeByUptoRow.holds Tryd.pinned (OpenSpec.upto fnMadeBySpec)

/-- 'laws.FnChainWithin', WHERE WHAT IT READS IS OF BULK AT MOST 1048576: true; the input reads as it did. -/
def fnChainWithinUptoRow : OpenClaim := { program := "ytahlmdlnemmhpaadoor", sum := "98c45e051748615455155aa820d38f9a10f87a5ddcb2d321375cff163b6af72d", func := "loop.example/manyvalues/laws.FnChainWithin", spec := "fnChainWithin", unfollowed := true, recurses := true, named := ["math/bits.deBruijn32tab", "math/bits.deBruijn64tab"], plainKeys := false, apart := false, laid := [("math/bits.deBruijn32tab", laid_math_bits_deBruijn32tab), ("math/bits.deBruijn64tab", laid_math_bits_deBruijn64tab)], narrowed := true }
def FnChainWithinUptoSaid : Prop := fnChainWithinUptoRow.holds Tryd.pinned (OpenSpec.upto fnChainWithinSpec)

/-- 'laws.FnClosedSets', WHERE WHAT IT READS IS OF BULK AT MOST 1048576: true; the input reads as it did. -/
def fnClosedSetsUptoRow : OpenClaim := { program := "ytahlmdlnemmhpaadoor", sum := "98c45e051748615455155aa820d38f9a10f87a5ddcb2d321375cff163b6af72d", func := "loop.example/manyvalues/laws.FnClosedSets", spec := "fnClosedSets", unfollowed := true, recurses := true, named := ["math/bits.deBruijn32tab", "math/bits.deBruijn64tab"], plainKeys := false, apart := false, laid := [("math/bits.deBruijn32tab", laid_math_bits_deBruijn32tab), ("math/bits.deBruijn64tab", laid_math_bits_deBruijn64tab)], narrowed := true }
def FnClosedSetsUptoSaid : Prop := fnClosedSetsUptoRow.holds Tryd.pinned (OpenSpec.upto fnClosedSetsSpec)

/-- 'laws.FnStepsFor', WHERE WHAT IT READS IS OF BULK AT MOST 1048576: true; the input reads as it did. -/
def fnStepsForUptoRow : OpenClaim := { program := "ytahlmdlnemmhpaadoor", sum := "98c45e051748615455155aa820d38f9a10f87a5ddcb2d321375cff163b6af72d", func := "loop.example/manyvalues/laws.FnStepsFor", spec := "fnStepsFor", unfollowed := true, recurses := true, named := ["math/bits.deBruijn32tab", "math/bits.deBruijn64tab"], plainKeys := false, apart := false, laid := [("math/bits.deBruijn32tab", laid_math_bits_deBruijn32tab), ("math/bits.deBruijn64tab", laid_math_bits_deBruijn64tab)], narrowed := true }
def FnStepsForUptoSaid : Prop := fnStepsForUptoRow.holds Tryd.pinned (OpenSpec.upto fnStepsForSpec)

/-- 'laws.FnExactClosedOk', WHERE WHAT IT READS IS OF BULK AT MOST 1048576: true; the input reads as it did. -/
def fnExactClosedOkUptoRow : OpenClaim := { program := "ytahlmdlnemmhpaadoor", sum := "98c45e051748615455155aa820d38f9a10f87a5ddcb2d321375cff163b6af72d", func := "loop.example/manyvalues/laws.FnExactClosedOk", spec := "fnExactClosedOk", unfollowed := true, recurses := true, named := ["math/bits.deBruijn32tab", "math/bits.deBruijn64tab"], plainKeys := false, apart := false, laid := [("math/bits.deBruijn32tab", laid_math_bits_deBruijn32tab), ("math/bits.deBruijn64tab", laid_math_bits_deBruijn64tab)], narrowed := true }
def FnExactClosedOkUptoSaid : Prop := fnExactClosedOkUptoRow.holds Tryd.pinned (OpenSpec.upto fnExactClosedOkSpec)

/-- 'laws.FnExactMadeBy', WHERE WHAT IT READS IS OF BULK AT MOST 1048576: true; the input reads as it did. -/
def fnExactMadeByUptoRow : OpenClaim := { program := "ytahlmdlnemmhpaadoor", sum := "98c45e051748615455155aa820d38f9a10f87a5ddcb2d321375cff163b6af72d", func := "loop.example/manyvalues/laws.FnExactMadeBy", spec := "fnExactMadeBy", unfollowed := true, recurses := true, named := ["math/bits.deBruijn32tab", "math/bits.deBruijn64tab"], plainKeys := false, apart := false, laid := [("math/bits.deBruijn32tab", laid_math_bits_deBruijn32tab), ("math/bits.deBruijn64tab", laid_math_bits_deBruijn64tab)], narrowed := true }
def FnExactMadeByUptoSaid : Prop := fnExactMadeByUptoRow.holds Tryd.pinned (OpenSpec.upto fnExactMadeBySpec)

/-- 'laws.FnExactClosedSets', WHERE WHAT IT READS IS OF BULK AT MOST 1048576: true; the input reads as it did. -/
def fnExactClosedSetsUptoRow : OpenClaim := { program := "ytahlmdlnemmhpaadoor", sum := "98c45e051748615455155aa820d38f9a10f87a5ddcb2d321375cff163b6af72d", func := "loop.example/manyvalues/laws.FnExactClosedSets", spec := "fnExactClosedSets", unfollowed := true, recurses := true, named := ["math/bits.deBruijn32tab", "math/bits.deBruijn64tab"], plainKeys := false, apart := false, laid := [("math/bits.deBruijn32tab", laid_math_bits_deBruijn32tab), ("math/bits.deBruijn64tab", laid_math_bits_deBruijn64tab)], narrowed := true }
def FnExactClosedSetsUptoSaid : Prop := fnExactClosedSetsUptoRow.holds Tryd.pinned (OpenSpec.upto fnExactClosedSetsSpec)

/-- 'laws.FnExactStepsFor', WHERE WHAT IT READS IS OF BULK AT MOST 1048576: true; the input reads as it did. -/
def fnExactStepsForUptoRow : OpenClaim := { program := "ytahlmdlnemmhpaadoor", sum := "98c45e051748615455155aa820d38f9a10f87a5ddcb2d321375cff163b6af72d", func := "loop.example/manyvalues/laws.FnExactStepsFor", spec := "fnExactStepsFor", unfollowed := true, recurses := true, named := ["math/bits.deBruijn32tab", "math/bits.deBruijn64tab"], plainKeys := false, apart := false, laid := [("math/bits.deBruijn32tab", laid_math_bits_deBruijn32tab), ("math/bits.deBruijn64tab", laid_math_bits_deBruijn64tab)], narrowed := true }
def FnExactStepsForUptoSaid : Prop := fnExactStepsForUptoRow.holds Tryd.pinned (OpenSpec.upto fnExactStepsForSpec)

end Rows
end Go.Proofs.YtahlmdlnemmhpaaDoor
