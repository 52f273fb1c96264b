/-
  The walk of FnSayableOk.
-/
import Derived.Test.YtoaknplfphoiaaaDoorMV2
namespace Go.Proofs.YtoaknplfphoiaaaDoor
open Go.RowKit

theorem FnSayableOk_walk (a0 : Option Addr) (len0 cap0 : Nat) (z0 : List Int) (w : World) (w0 : IsRow .u8 w a0 len0 cap0 z0) (hT : TzAt w) :
    Calls Tryd.prog 4 #[.slice a0 len0 cap0] w fun e w' => e = .returned (.bool true) ∧ Below w.heap.size w w' := FnSayableOk_of isay_any a0 len0 cap0 z0 w w0 hT

end Go.Proofs.YtoaknplfphoiaaaDoor
