/-
  NARROWER THAN 'FOR EVERY INPUT', by the rows' own cells (each row's printed sentence says how): FnRowSaid: laid · FnSayableOk: laid · FnCountSayable: laid · FnRowsMade: laid · FnExactSayableOk: laid · FnExactCountSayable: laid.
  DERIVED. THE GIVEN ROWS OF THIS SEAT. 6 by the template 'for every input the law returns true; each argument reads behind the call as it read before'; 0 by the template 'total and deterministic' (their statements: YtoaknplfphoiaaaDoorTotals.lean).
  GIVEN WITH THE SEED: the statements are not yours to turn. If you find one false, say at which input.
  Laid BY PROGRAM, IN A SANDBOX (cutbox-rows.mjs): the forced cells as the released guide's own fill.sh prints them over the translation ede685ed93d9cb5d… (all of the seat's roots in one cut). By AI agents, Wed Nov 11 2026. No macro, syntax, notation, axiom, sorry.
-/
import Derived.Test.YtoaknplfphoiaaaDoorChecked
import GoSem.Claim
import GoSem.ClaimJoined
import GoSem.ClaimMapViews
import Derived.JoinedTies
import Derived.KernelRfl
namespace Go.Proofs.YtoaknplfphoiaaaDoor
/- THE CELL 'sum', in the pinned program and in every row, IS THE sha256 OF THE DUMP (.gsa) THAT YtoaknplfphoiaaaDoorProg.lean LOADS. Nothing in Lean hashes anything: it is a label: what it is worth is what the hold of that sum in a sandbox is worth. -/
noncomputable def Tryd.pinned : Pinned := { name := "ytoaknplfphoiaaadoor", sum := "ede685ed93d9cb5dbcc73241d73a004485d6cfb72d4a411b6b69c5dbd8636ee6", checked := Tryd.checked }
namespace Rows
def none {H : Type} : Left H := { results := [], args := [] }

/- WHAT THE LISTED PACKAGE-LEVEL VARIABLES READ AS WHEN THE CALL BEGINS. Each datum BY PROGRAM (the guide's laid-datum.mjs) off the statement by which the dump's own 'gosem.cut.vars' lays the variable. In a bare row this is a premise. The card (YtoaknplfphoiaaaDoorCards.lean) ties it to the program's text. -/
def laid_math_bits_deBruijn32tab {H : Type} : DataW H := .agg [.lit (.int .u8 0), .lit (.int .u8 1), .lit (.int .u8 28), .lit (.int .u8 2), .lit (.int .u8 29), .lit (.int .u8 14), .lit (.int .u8 24), .lit (.int .u8 3), .lit (.int .u8 30), .lit (.int .u8 22), .lit (.int .u8 20), .lit (.int .u8 15), .lit (.int .u8 25), .lit (.int .u8 17), .lit (.int .u8 4), .lit (.int .u8 8), .lit (.int .u8 31), .lit (.int .u8 27), .lit (.int .u8 13), .lit (.int .u8 23), .lit (.int .u8 21), .lit (.int .u8 19), .lit (.int .u8 16), .lit (.int .u8 7), .lit (.int .u8 26), .lit (.int .u8 12), .lit (.int .u8 18), .lit (.int .u8 6), .lit (.int .u8 11), .lit (.int .u8 5), .lit (.int .u8 10), .lit (.int .u8 9)]
def laid_math_bits_deBruijn64tab {H : Type} : DataW H := .agg [.lit (.int .u8 0), .lit (.int .u8 1), .lit (.int .u8 56), .lit (.int .u8 2), .lit (.int .u8 57), .lit (.int .u8 49), .lit (.int .u8 28), .lit (.int .u8 3), .lit (.int .u8 61), .lit (.int .u8 58), .lit (.int .u8 42), .lit (.int .u8 50), .lit (.int .u8 38), .lit (.int .u8 29), .lit (.int .u8 17), .lit (.int .u8 4), .lit (.int .u8 62), .lit (.int .u8 47), .lit (.int .u8 59), .lit (.int .u8 36), .lit (.int .u8 45), .lit (.int .u8 43), .lit (.int .u8 51), .lit (.int .u8 22), .lit (.int .u8 53), .lit (.int .u8 39), .lit (.int .u8 33), .lit (.int .u8 30), .lit (.int .u8 24), .lit (.int .u8 18), .lit (.int .u8 12), .lit (.int .u8 5), .lit (.int .u8 63), .lit (.int .u8 55), .lit (.int .u8 48), .lit (.int .u8 27), .lit (.int .u8 60), .lit (.int .u8 41), .lit (.int .u8 37), .lit (.int .u8 16), .lit (.int .u8 46), .lit (.int .u8 35), .lit (.int .u8 44), .lit (.int .u8 21), .lit (.int .u8 52), .lit (.int .u8 32), .lit (.int .u8 23), .lit (.int .u8 11), .lit (.int .u8 54), .lit (.int .u8 26), .lit (.int .u8 40), .lit (.int .u8 15), .lit (.int .u8 34), .lit (.int .u8 20), .lit (.int .u8 31), .lit (.int .u8 10), .lit (.int .u8 25), .lit (.int .u8 14), .lit (.int .u8 19), .lit (.int .u8 9), .lit (.int .u8 13), .lit (.int .u8 8), .lit (.int .u8 7), .lit (.int .u8 6)]

/-- 'laws.FnRowSaid': WHATEVER THE INPUT: true; the input reads as it did. -/
def fnRowSaidSpec : ChangeSpec := { name := "fnRowSaid", fn := fun _ => fun
  | [d] => { results := [.lit (.bool true)], args := [d] }
  | _ => none }
def fnRowSaidRow : OpenClaim := { program := "ytoaknplfphoiaaadoor", sum := "ede685ed93d9cb5dbcc73241d73a004485d6cfb72d4a411b6b69c5dbd8636ee6", func := "loop.example/manyvalues/laws.FnRowSaid", spec := "fnRowSaid", unfollowed := true, recurses := true, named := ["math/bits.deBruijn32tab", "math/bits.deBruijn64tab"], apart := false, laid := [("math/bits.deBruijn32tab", laid_math_bits_deBruijn32tab), ("math/bits.deBruijn64tab", laid_math_bits_deBruijn64tab)] }
def FnRowSaidSaid : Prop := fnRowSaidRow.holds Tryd.pinned (OpenSpec.ofChange fnRowSaidSpec)

/-- ITS FALSE NEIGHBOUR: 'it returns false'. Refute it at one input. -/
def fnRowSaidWrong : ChangeSpec := { name := "fnRowSaid", fn := fun _ => fun
  | [d] => { results := [.lit (.bool false)], args := [d] }
  | _ => none }
def FnRowSaidWrongFalsely : Prop := fnRowSaidRow.holds Tryd.pinned (OpenSpec.ofChange fnRowSaidWrong)

/-- 'laws.FnSayableOk': WHATEVER THE INPUT: true; the input reads as it did. -/
def fnSayableOkSpec : ChangeSpec := { name := "fnSayableOk", fn := fun _ => fun
  | [d] => { results := [.lit (.bool true)], args := [d] }
  | _ => none }
def fnSayableOkRow : OpenClaim := { program := "ytoaknplfphoiaaadoor", sum := "ede685ed93d9cb5dbcc73241d73a004485d6cfb72d4a411b6b69c5dbd8636ee6", func := "loop.example/manyvalues/laws.FnSayableOk", spec := "fnSayableOk", unfollowed := true, recurses := true, named := ["math/bits.deBruijn32tab", "math/bits.deBruijn64tab"], apart := false, laid := [("math/bits.deBruijn32tab", laid_math_bits_deBruijn32tab), ("math/bits.deBruijn64tab", laid_math_bits_deBruijn64tab)] }
def FnSayableOkSaid : Prop := fnSayableOkRow.holds Tryd.pinned (OpenSpec.ofChange fnSayableOkSpec)

/-- ITS FALSE NEIGHBOUR: 'it returns false'. Refute it at one input. -/
def fnSayableOkWrong : ChangeSpec := { name := "fnSayableOk", fn := fun _ => fun
  | [d] => { results := [.lit (.bool false)], args := [d] }
  | _ => none }
def FnSayableOkWrongFalsely : Prop := fnSayableOkRow.holds Tryd.pinned (OpenSpec.ofChange fnSayableOkWrong)

/-- 'laws.FnCountSayable': WHATEVER THE INPUT: true; the input reads as it did. -/
def fnCountSayableSpec : ChangeSpec := { name := "fnCountSayable", fn := fun _ => fun
  | [d] => { results := [.lit (.bool true)], args := [d] }
  | _ => none }
def fnCountSayableRow : OpenClaim := { program := "ytoaknplfphoiaaadoor", sum := "ede685ed93d9cb5dbcc73241d73a004485d6cfb72d4a411b6b69c5dbd8636ee6", func := "loop.example/manyvalues/laws.FnCountSayable", spec := "fnCountSayable", unfollowed := true, recurses := true, named := ["math/bits.deBruijn32tab", "math/bits.deBruijn64tab"], apart := false, laid := [("math/bits.deBruijn32tab", laid_math_bits_deBruijn32tab), ("math/bits.deBruijn64tab", laid_math_bits_deBruijn64tab)] }
def FnCountSayableSaid : Prop := fnCountSayableRow.holds Tryd.pinned (OpenSpec.ofChange fnCountSayableSpec)

/-- ITS FALSE NEIGHBOUR: 'it returns false'. Refute it at one input. -/
def fnCountSayableWrong : ChangeSpec := { name := "fnCountSayable", fn := fun _ => fun
  | [d] => { results := [.lit (.bool false)], args := [d] }
  | _ => none }
def FnCountSayableWrongFalsely : Prop := fnCountSayableRow.holds Tryd.pinned (OpenSpec.ofChange fnCountSayableWrong)

/-- 'laws.FnRowsMade': WHATEVER THE INPUT: true; the input reads as it did. -/
def fnRowsMadeSpec : ChangeSpec := { name := "fnRowsMade", fn := fun _ => fun
  | [d] => { results := [.lit (.bool true)], args := [d] }
  | _ => none }
def fnRowsMadeRow : OpenClaim := { program := "ytoaknplfphoiaaadoor", sum := "ede685ed93d9cb5dbcc73241d73a004485d6cfb72d4a411b6b69c5dbd8636ee6", func := "loop.example/manyvalues/laws.FnRowsMade", spec := "fnRowsMade", unfollowed := true, recurses := true, named := ["math/bits.deBruijn32tab", "math/bits.deBruijn64tab"], apart := false, laid := [("math/bits.deBruijn32tab", laid_math_bits_deBruijn32tab), ("math/bits.deBruijn64tab", laid_math_bits_deBruijn64tab)] }
def FnRowsMadeSaid : Prop := fnRowsMadeRow.holds Tryd.pinned (OpenSpec.ofChange fnRowsMadeSpec)

/-- ITS FALSE NEIGHBOUR: 'it returns false'. Refute it at one input. -/
def fnRowsMadeWrong : ChangeSpec := { name := "fnRowsMade", fn := fun _ => fun
  | [d] => { results := [.lit (.bool false)], args := [d] }
  | _ => none }
def FnRowsMadeWrongFalsely : Prop := fnRowsMadeRow.holds Tryd.pinned (OpenSpec.ofChange fnRowsMadeWrong)

/-- 'laws.FnExactSayableOk': WHATEVER THE INPUT: true; the input reads as it did. -/
def fnExactSayableOkSpec : ChangeSpec := { name := "fnExactSayableOk", fn := fun _ => fun
  | [d1, d2] => { results := [.lit (.bool true)], args := [d1, d2] }
  | _ => none }
def fnExactSayableOkRow : OpenClaim := { program := "ytoaknplfphoiaaadoor", sum := "ede685ed93d9cb5dbcc73241d73a004485d6cfb72d4a411b6b69c5dbd8636ee6", func := "loop.example/manyvalues/laws.FnExactSayableOk", spec := "fnExactSayableOk", unfollowed := true, recurses := true, named := ["math/bits.deBruijn32tab", "math/bits.deBruijn64tab"], apart := false, laid := [("math/bits.deBruijn32tab", laid_math_bits_deBruijn32tab), ("math/bits.deBruijn64tab", laid_math_bits_deBruijn64tab)] }
def FnExactSayableOkSaid : Prop := fnExactSayableOkRow.holds Tryd.pinned (OpenSpec.ofChange fnExactSayableOkSpec)

/-- ITS FALSE NEIGHBOUR: 'it returns false'. Refute it at one input. -/
def fnExactSayableOkWrong : ChangeSpec := { name := "fnExactSayableOk", fn := fun _ => fun
  | [d1, d2] => { results := [.lit (.bool false)], args := [d1, d2] }
  | _ => none }
def FnExactSayableOkWrongFalsely : Prop := fnExactSayableOkRow.holds Tryd.pinned (OpenSpec.ofChange fnExactSayableOkWrong)

/-- 'laws.FnExactCountSayable': WHATEVER THE INPUT: true; the input reads as it did. -/
def fnExactCountSayableSpec : ChangeSpec := { name := "fnExactCountSayable", fn := fun _ => fun
  | [d] => { results := [.lit (.bool true)], args := [d] }
  | _ => none }
def fnExactCountSayableRow : OpenClaim := { program := "ytoaknplfphoiaaadoor", sum := "ede685ed93d9cb5dbcc73241d73a004485d6cfb72d4a411b6b69c5dbd8636ee6", func := "loop.example/manyvalues/laws.FnExactCountSayable", spec := "fnExactCountSayable", unfollowed := true, recurses := true, named := ["math/bits.deBruijn32tab", "math/bits.deBruijn64tab"], apart := false, laid := [("math/bits.deBruijn32tab", laid_math_bits_deBruijn32tab), ("math/bits.deBruijn64tab", laid_math_bits_deBruijn64tab)] }
def FnExactCountSayableSaid : Prop := fnExactCountSayableRow.holds Tryd.pinned (OpenSpec.ofChange fnExactCountSayableSpec)

/-- ITS FALSE NEIGHBOUR: 'it returns false'. Refute it at one input. -/
def fnExactCountSayableWrong : ChangeSpec := { name := "fnExactCountSayable", fn := fun _ => fun
  | [d] => { results := [.lit (.bool false)], args := [d] }
  | _ => none }
def FnExactCountSayableWrongFalsely : Prop := fnExactCountSayableRow.holds Tryd.pinned (OpenSpec.ofChange fnExactCountSayableWrong)

/- THE SECOND FORM. 'bulk': how many values and letters a reading holds, each counted each time it is reached (what is shared counts as often as it is met; a slice's spare places count too). A statement '..UptoSaid' is the law's where the arguments, and the package variables that the reading takes, are together of bulk at most 1048576: NARROWER than '..Said'. Prove '..Said' where nothing that the law and all that it calls make is longer than what came in: it says more and counts as full. Else prove '..UptoSaid'. A law counts once. -/
mutual
def uptoBulk {H : Type} : DataW H → Nat
  | .lit (.string bytes) => bytes.length + 1
  | .lit _ => 1
  | .nil => 1
  | .ptr d => uptoBulk d + 1
  | .slice elems spare => uptoBulkAll elems + uptoBulkAll spare + 1
  | .agg parts => uptoBulkAll parts + 1
  | .iface _ d => uptoBulk d + 1
  | .map entries => uptoBulkEntries entries + 1
  | .held _ => 1
def uptoBulkAll {H : Type} : List (DataW H) → Nat
  | [] => 0
  | d :: r => uptoBulk d + uptoBulkAll r
def uptoBulkEntries {H : Type} : List (Lit × DataW H) → Nat
  | [] => 0
  | x :: r => uptoBulkEntry x + uptoBulkEntries r
def uptoBulkEntry {H : Type} : Lit × DataW H → Nat
  | (.string bytes, d) => bytes.length + uptoBulk d + 1
  | (_, d) => uptoBulk d + 1
 end
def uptoSmall : (H : Type) → List (DataW H) → Bool := fun _ ds => decide (uptoBulkAll ds ≤ 1048576)
def OpenSpec.upto (s : _root_.Go.ChangeSpec) : _root_.Go.OpenSpec := { _root_.Go.OpenSpec.ofChange s with cond := some uptoSmall }

/-- 'laws.FnRowSaid', WHERE WHAT IT READS IS OF BULK AT MOST 1048576: true; the input reads as it did. -/
def fnRowSaidUptoRow : OpenClaim := { program := "ytoaknplfphoiaaadoor", sum := "ede685ed93d9cb5dbcc73241d73a004485d6cfb72d4a411b6b69c5dbd8636ee6", func := "loop.example/manyvalues/laws.FnRowSaid", spec := "fnRowSaid", unfollowed := true, recurses := true, named := ["math/bits.deBruijn32tab", "math/bits.deBruijn64tab"], apart := false, laid := [("math/bits.deBruijn32tab", laid_math_bits_deBruijn32tab), ("math/bits.deBruijn64tab", laid_math_bits_deBruijn64tab)], narrowed := true }
def FnRowSaidUptoSaid : Prop := fnRowSaidUptoRow.holds Tryd.pinned (OpenSpec.upto fnRowSaidSpec)

/-- 'laws.FnSayableOk', WHERE WHAT IT READS IS OF BULK AT MOST 1048576: true; the input reads as it did. -/
def fnSayableOkUptoRow : OpenClaim := { program := "ytoaknplfphoiaaadoor", sum := "ede685ed93d9cb5dbcc73241d73a004485d6cfb72d4a411b6b69c5dbd8636ee6", func := "loop.example/manyvalues/laws.FnSayableOk", spec := "fnSayableOk", unfollowed := true, recurses := true, named := ["math/bits.deBruijn32tab", "math/bits.deBruijn64tab"], apart := false, laid := [("math/bits.deBruijn32tab", laid_math_bits_deBruijn32tab), ("math/bits.deBruijn64tab", laid_math_bits_deBruijn64tab)], narrowed := true }
def FnSayableOkUptoSaid : Prop := fnSayableOkUptoRow.holds Tryd.pinned (OpenSpec.upto fnSayableOkSpec)

/-- 'laws.FnCountSayable', WHERE WHAT IT READS IS OF BULK AT MOST 1048576: true; the input reads as it did. -/
def fnCountSayableUptoRow : OpenClaim := { program := "ytoaknplfphoiaaadoor", sum := "ede685ed93d9cb5dbcc73241d73a004485d6cfb72d4a411b6b69c5dbd8636ee6", func := "loop.example/manyvalues/laws.FnCountSayable", spec := "fnCountSayable", unfollowed := true, recurses := true, named := ["math/bits.deBruijn32tab", "math/bits.deBruijn64tab"], apart := false, laid := [("math/bits.deBruijn32tab", laid_math_bits_deBruijn32tab), ("math/bits.deBruijn64tab", laid_math_bits_deBruijn64tab)], narrowed := true }
def FnCountSayableUptoSaid : Prop := fnCountSayableUptoRow.holds Tryd.pinned (OpenSpec.upto fnCountSayableSpec)

/-- 'laws.FnRowsMade', WHERE WHAT IT READS IS OF BULK AT MOST 1048576: true; the input reads as it did. -/
def fnRowsMadeUptoRow : OpenClaim := { program := "ytoaknplfphoiaaadoor", sum := "ede685ed93d9cb5dbcc73241d73a004485d6cfb72d4a411b6b69c5dbd8636ee6", func := "loop.example/manyvalues/laws.FnRowsMade", spec := "fnRowsMade", unfollowed := true, recurses := true, named := ["math/bits.deBruijn32tab", "math/bits.deBruijn64tab"], apart := false, laid := [("math/bits.deBruijn32tab", laid_math_bits_deBruijn32tab), ("math/bits.deBruijn64tab", laid_math_bits_deBruijn64tab)], narrowed := true }
def FnRowsMadeUptoSaid : Prop := fnRowsMadeUptoRow.holds Tryd.pinned (OpenSpec.upto fnRowsMadeSpec)

/-- 'laws.FnExactSayableOk', WHERE WHAT IT READS IS OF BULK AT MOST 1048576: true; the input reads as it did. -/
def fnExactSayableOkUptoRow : OpenClaim := { program := "ytoaknplfphoiaaadoor", sum := "ede685ed93d9cb5dbcc73241d73a004485d6cfb72d4a411b6b69c5dbd8636ee6", func := "loop.example/manyvalues/laws.FnExactSayableOk", spec := "fnExactSayableOk", unfollowed := true, recurses := true, named := ["math/bits.deBruijn32tab", "math/bits.deBruijn64tab"], apart := false, laid := [("math/bits.deBruijn32tab", laid_math_bits_deBruijn32tab), ("math/bits.deBruijn64tab", laid_math_bits_deBruijn64tab)], narrowed := true }
def FnExactSayableOkUptoSaid : Prop := fnExactSayableOkUptoRow.holds Tryd.pinned (OpenSpec.upto fnExactSayableOkSpec)

/-- 'laws.FnExactCountSayable', WHERE WHAT IT READS IS OF BULK AT MOST 1048576: true; the input reads as it did. -/
def fnExactCountSayableUptoRow : OpenClaim := { program := "ytoaknplfphoiaaadoor", sum := "ede685ed93d9cb5dbcc73241d73a004485d6cfb72d4a411b6b69c5dbd8636ee6", func := "loop.example/manyvalues/laws.FnExactCountSayable", spec := "fnExactCountSayable", unfollowed := true, recurses := true, named := ["math/bits.deBruijn32tab", "math/bits.deBruijn64tab"], apart := false, laid := [("math/bits.deBruijn32tab", laid_math_bits_deBruijn32tab), ("math/bits.deBruijn64tab", laid_math_bits_deBruijn64tab)], narrowed := true }
def FnExactCountSayableUptoSaid : Prop := fnExactCountSayableUptoRow.holds Tryd.pinned (OpenSpec.upto fnExactCountSayableSpec)

end Rows
end Go.Proofs.YtoaknplfphoiaaaDoor
