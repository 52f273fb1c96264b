/-
  The draws of chapter 2.
-/
import Derived.Test.YtlnffpofbfigaaaGreatDoorDraw4
namespace Go.Proofs.YtlnffpofbfigaaaGreatDoor
open Go.RowKit

def TwoPost (r P : Nat) (w : World) (e : Ending) (w' : World) : Prop :=
  ∃ n v u : Int, e = .returned (.tuple #[.int .i64 n, .int .i64 v, .int .i64 u]) ∧ -1 ≤ n ∧ n ≤ 7 ∧ -16 ≤ v ∧ v ≤ 1016 ∧ -16 ≤ u ∧ u ≤ 1016 ∧ Rd w' r (P + 8) ∧ w.grownBy w' (some r)

def Three (w : World) (e : Ending) (w' : World) : Prop :=
  ∃ n v u : Int, e = .returned (.tuple #[.int .i64 n, .int .i64 v, .int .i64 u]) ∧ -1 ≤ n ∧ n ≤ 7 ∧ -16 ≤ v ∧ v ≤ 1016 ∧ -16 ≤ u ∧ u ≤ 1016 ∧ w.grownBy w' none

end Go.Proofs.YtlnffpofbfigaaaGreatDoor
