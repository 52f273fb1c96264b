/-
  What a draw of two or three numbers answers; the contract of DrawLowestOf.
-/
import Derived.Test.YtlnffpofbfigaaaGreatDoorDraw3
namespace Go.Proofs.YtlnffpofbfigaaaGreatDoor
open Go.RowKit

def Draw2Post (lo1 hi1 lo2 hi2 : Int) (w : World) (e : Ending) (w' : World) : Prop :=
  ∃ n v : Int, e = .returned (.tuple #[.int .i64 n, .int .i64 v]) ∧ lo1 ≤ n ∧ n ≤ hi1 ∧ lo2 ≤ v ∧ v ≤ hi2 ∧ w.grownBy w' none

def Draw3Post (w : World) (e : Ending) (w' : World) : Prop :=
  ∃ n v m : Int, e = .returned (.tuple #[.int .i64 n, .int .i64 v, .int .i64 m]) ∧ -1 ≤ n ∧ n ≤ 7 ∧ -16 ≤ v ∧ v ≤ 1016 ∧ -1 ≤ m ∧ m ≤ 7 ∧ w.grownBy w' none

end Go.Proofs.YtlnffpofbfigaaaGreatDoor
