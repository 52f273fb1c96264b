/-
  The walks of MovesOf's laws: out of its contract.
-/
import Derived.Test.YtbalikemmilnaaaRI2
import Derived.Test.YtbalikemmilnaaaRV5
import Derived.Test.YtbalikemmilnaaaRL
namespace Go.Proofs.Ytbalikemmilnaaa
open Go.RowKit

theorem FnMovesOf_walk (a0 : Option Addr) (len0 cap0 : Nat) (z0 : List Int) (w : World) (w0 : IsRow .u8 w a0 len0 cap0 z0) :
    Calls Try.prog 8 #[.slice a0 len0 cap0] w fun e w' => e = .returned (.bool true) ∧ Below w.heap.size w w' := FnMovesOf_of mov_any a0 len0 cap0 z0 w w0

theorem FnExactMovesOf_walk (a0 : Int) (a1 : ByteArray) (w0 : (Lit.int .i64 a0).wf = true) (w1 : a1.size ≤ maxLen) (w : World) :
    Calls Try.prog 14 #[.int .i64 a0, .string a1] w fun e w' => e = .returned (.bool true) ∧ Below w.heap.size w w' := FnExactMovesOf_of mov_any a0 a1 w0 w1 w

end Go.Proofs.Ytbalikemmilnaaa
