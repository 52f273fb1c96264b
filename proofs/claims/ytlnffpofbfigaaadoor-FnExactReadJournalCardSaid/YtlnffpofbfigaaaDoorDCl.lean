/-
  Copies of a desk: the library's Clone, impl's copied, the model's l12Copy.
-/
import Derived.Test.YtlnffpofbfigaaaDoorDRow
import Derived.Laws.AppendOwnNone
namespace Go.Proofs.YtlnffpofbfigaaaDoor
open Go.RowKit
theorem size2 (w : World) (A B : Obj) : ((w.alloc A).alloc B).heap.size = w.heap.size + 1 + 1 := by show ((w.heap.push _).push _).size = _; rw [Array.size_push, Array.size_push]

end Go.Proofs.YtlnffpofbfigaaaDoor
