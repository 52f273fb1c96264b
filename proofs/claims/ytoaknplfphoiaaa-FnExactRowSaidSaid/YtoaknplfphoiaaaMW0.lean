/-
  The walk of FnExactRowSaid.
-/
import Derived.Test.YtoaknplfphoiaaaNS
import Derived.Test.YtoaknplfphoiaaaML
namespace Go.Proofs.Ytoaknplfphoiaaa
open Go.RowKit

theorem FnExactRowSaid_walk (a0 : Int) (a1 : ByteArray) (w0 : (Lit.int .i64 a0).wf = true) (w1 : a1.size ≤ maxLen) (w : World) :
    Calls Try.prog 3 #[.int .i64 a0, .string a1] w fun e w' => e = .returned (.bool true) ∧ Below w.heap.size w w' := FnExactRowSaid_of isaid_any a0 a1 w0 w1 w

end Go.Proofs.Ytoaknplfphoiaaa
