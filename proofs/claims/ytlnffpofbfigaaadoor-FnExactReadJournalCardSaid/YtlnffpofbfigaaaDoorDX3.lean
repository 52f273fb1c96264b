/-
  Copies of desks that came in, and desks that are equal; the exact law of DeskOk.
-/
import Derived.Test.YtlnffpofbfigaaaDoorDX2
namespace Go.Proofs.YtlnffpofbfigaaaDoor
open Go.RowKit

def EqRel (xs : List Ld) (w : World) (i : Value) (wr : World) : Prop := ∃ k : Nat, k ≤ xs.length ∧ i = .int .i64 k ∧ w.grownBy wr none

/-! Whole desks. -/

end Go.Proofs.YtlnffpofbfigaaaDoor
