/-
  Joined out of the texts SetI, Say: what each holds is told at its head.
-/
import Derived.Test.YtlnffpofbfigaaaGreatDoorM2359aa93
import Derived.Lib.TrailingZeros

/-
  Sets of values of a chain as the program makes them: the values of a set in their order, what follows within a set, joined. No program is named.
-/
namespace Go.Proofs.YtlnffpofbfigaaaGreatDoor

end Go.Proofs.YtlnffpofbfigaaaGreatDoor

/-
  Rows of values of a chain that may be said of one letter, as lists of numbers: they are closed under following; whatever holds of the row of all values and of noughts and is kept by following holds of all of them, for 1 to 4 steps; the row of a formula is one of them. No program is named.
-/
namespace Go.Proofs.YtlnffpofbfigaaaGreatDoor

/-! Each sayable row is made of the two first ones: for 1 to 4 steps, step by step: the codes of the two rows and of the new one. -/
end Go.Proofs.YtlnffpofbfigaaaGreatDoor
