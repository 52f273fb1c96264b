/-
  What the functions of chapter 9 answer, as propositions: the laws' walks take them as they come.
-/
import Derived.Test.YtlnffpofbfigaaaGreatDoorM8bfeaf45
import Derived.Test.YtlnffpofbfigaaaGreatDoorN45c96330
namespace Go.Proofs.YtlnffpofbfigaaaGreatDoor
open Go.RowKit

def SaidC : Prop := ∀ (n : Int) (s : ByteArray) (w : World), Calls Tryz.prog 157 #[.int .i64 n, .string s] w (IntsPost (saidL n (bl s)) w)

theorem said_v (H : SaidC) (n : Int) (s : ByteArray) {xs : List Int} (h : saidL n (bl s) = xs) (w : World) : Calls Tryz.prog 157 #[.int .i64 n, .string s] w (IntsPost xs w) := by rw [← h]; exact H n s w

end Go.Proofs.YtlnffpofbfigaaaGreatDoor
