/-
  The walk of FnRowSaid.
-/
import Derived.Test.YtoaknplfphoiaaaDoorNS
import Derived.Test.YtoaknplfphoiaaaDoorNI
import Derived.Test.YtoaknplfphoiaaaDoorMV1
namespace Go.Proofs.YtoaknplfphoiaaaDoor
open Go.RowKit

theorem FnRowSaid_walk (a0 : Option Addr) (len0 cap0 : Nat) (z0 : List Int) (w : World) (w0 : IsRow .u8 w a0 len0 cap0 z0) (hT : TzAt w) :
    Calls Tryd.prog 3 #[.slice a0 len0 cap0] w fun e w' => e = .returned (.bool true) ∧ Below w.heap.size w w' := FnRowSaid_of isaid_any isay_any a0 len0 cap0 z0 w w0 hT

end Go.Proofs.YtoaknplfphoiaaaDoor
