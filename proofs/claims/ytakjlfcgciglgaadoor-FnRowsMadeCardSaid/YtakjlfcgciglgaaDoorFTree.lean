/-
  impl: formula finds what the plain parser finds; treeOf; FormulaOk. No condition.
-/
import Derived.Test.YtakjlfcgciglgaaDoorFRead
namespace Go.Proofs.YtakjlfcgciglgaaDoor
open Go.RowKit Go.Maps Go.Joins

theorem RdF.made {w w1 : World} {s : ByteArray} (ho : w1.ownsMap Tryd.prog 9 anyElem w.heap.size 5 signsD) (t : TypeId) :
    RdF (w1.alloc (.cells #[.string s, .map (some w.heap.size)] t)) w1.heap.size w.heap.size s := by
  have hlt := ho.lt
  obtain ⟨c0, c1, f0, _⟩ := cells_new (heap_alloc_new w1 (.cells #[.string s, .map (some w.heap.size)] t))
  exact ⟨c0, c1, f0, ho.alloc _, by omega⟩

end Go.Proofs.YtakjlfcgciglgaaDoor
