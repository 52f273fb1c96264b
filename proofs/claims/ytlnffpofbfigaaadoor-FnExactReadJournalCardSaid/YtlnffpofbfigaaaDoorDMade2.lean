/-
  What a deed makes of a chain and a formula, where it makes none or takes the formula's basic form: the model's l12Made.
-/
import Derived.Test.YtlnffpofbfigaaaDoorDMade
namespace Go.Proofs.YtlnffpofbfigaaaDoor
open Go.RowKit

theorem made4 (w : World) (A B C D : Obj) : w.grownBy ((((w.alloc A).alloc B).alloc C).alloc D) none :=
  grownBy_trans (grownBy_trans (grownBy_trans (World.grownBy_alloc w A none) (World.grownBy_alloc _ B none)) (World.grownBy_alloc _ C none)) (World.grownBy_alloc _ D none)

end Go.Proofs.YtlnffpofbfigaaaDoor
