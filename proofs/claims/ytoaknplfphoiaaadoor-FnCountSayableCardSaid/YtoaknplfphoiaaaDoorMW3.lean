/-
  The walk of FnCountSayable.
-/
import Derived.Test.YtoaknplfphoiaaaDoorNI
import Derived.Test.YtoaknplfphoiaaaDoorMV3
namespace Go.Proofs.YtoaknplfphoiaaaDoor
open Go.RowKit

theorem FnCountSayable_walk (a0 : Option Addr) (len0 cap0 : Nat) (z0 : List Int) (w : World) (w0 : IsRow .u8 w a0 len0 cap0 z0) (hT : TzAt w) :
    Calls Tryd.prog 5 #[.slice a0 len0 cap0] w fun e w' => e = .returned (.bool true) ∧ Below w.heap.size w w' := FnCountSayable_of iscnt_any a0 len0 cap0 z0 w w0 hT

end Go.Proofs.YtoaknplfphoiaaaDoor
