/-
  The walks of FnExactSayableOk and FnExactCountSayable.
-/
import Derived.Test.YtoaknplfphoiaaaDoorNI
import Derived.Test.YtoaknplfphoiaaaDoorML
namespace Go.Proofs.YtoaknplfphoiaaaDoor
open Go.RowKit

theorem FnExactSayableOk_walk (a0 : Int) (a1 : Option Addr) (len1 cap1 : Nat) (z1 : List Int) (w : World) (w0 : (Lit.int .i64 a0).wf = true) (w1 : IsRow .i64 w a1 len1 cap1 z1) (hT : TzAt w) :
    Calls Tryd.prog 7 #[.int .i64 a0, .slice a1 len1 cap1] w fun e w' => e = .returned (.bool true) ∧ Below w.heap.size w w' := FnExactSayableOk_of isay_any a0 a1 len1 cap1 z1 w w0 w1 hT

theorem FnExactCountSayable_walk (a0 : Int) (w0 : (Lit.int .i64 a0).wf = true) (w : World) (hT : TzAt w) :
    Calls Tryd.prog 8 #[.int .i64 a0] w fun e w' => e = .returned (.bool true) ∧ Below w.heap.size w w' := FnExactCountSayable_of iscnt_any a0 w0 w hT

end Go.Proofs.YtoaknplfphoiaaaDoor
