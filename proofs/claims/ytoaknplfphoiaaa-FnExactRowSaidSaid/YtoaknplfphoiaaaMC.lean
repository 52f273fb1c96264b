/-
  What the functions of chapter 9 answer, as propositions: the laws' walks take them as they come.
-/
import Derived.Test.YtoaknplfphoiaaaMSpec2
import Derived.Test.YtoaknplfphoiaaaZImp
namespace Go.Proofs.Ytoaknplfphoiaaa
open Go.RowKit

def SaidC : Prop := ∀ (n : Int) (s : ByteArray) (w : World), Calls Try.prog 6 #[.int .i64 n, .string s] w (IntsPost (saidL n (bl s)) w)

theorem said_v (H : SaidC) (n : Int) (s : ByteArray) {xs : List Int} (h : saidL n (bl s) = xs) (w : World) : Calls Try.prog 6 #[.int .i64 n, .string s] w (IntsPost xs w) := by rw [← h]; exact H n s w

theorem ssaid_v (n : Int) (s : ByteArray) {xs : List Int} (h : saidL n (bl s) = xs) (w : World) : Calls Try.prog 5 #[.int .i64 n, .string s] w (IntsPost xs w) := by rw [← h]; exact ssaid_any n s w

end Go.Proofs.Ytoaknplfphoiaaa
