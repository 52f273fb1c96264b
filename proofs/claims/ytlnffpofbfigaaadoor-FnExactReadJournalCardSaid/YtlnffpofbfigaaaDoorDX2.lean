/-
  Copies of desks that came in: the laws' szDesk, toDesk; the exact law of DeskOk.
-/
import Derived.Test.YtlnffpofbfigaaaDoorDX1
import Derived.Test.YtlnffpofbfigaaaDoorDSame
namespace Go.Proofs.YtlnffpofbfigaaaDoor
open Go.RowKit

/-! A row of pairs that was handed in, and its copy. -/
def SzLd (xs : List Ld) (w : World) (i left : Value) (wr : World) : Prop := ∃ (k : Nat) (l : Int), k ≤ xs.length ∧ i = .int .i64 k ∧ left = .int .i64 l ∧ 0 ≤ l ∧ l ≤ 1048576 ∧ w.grownBy wr none
/-- What szLaidS answers with: something below 0, or a number and few pairs. -/
def SzPost (xs : List Ld) (w : World) (e : Ending) (w' : World) : Prop := ∃ v : Int, e = .returned (.int .i64 v) ∧ (v < 0 ∨ (0 ≤ v ∧ v ≤ 1048576 ∧ xs.length ≤ 1048576)) ∧ w.grownBy w' none

end Go.Proofs.YtlnffpofbfigaaaDoor
