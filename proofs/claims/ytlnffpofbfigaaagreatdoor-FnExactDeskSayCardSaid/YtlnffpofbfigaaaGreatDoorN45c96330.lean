/-
  What the program's small functions on sets answer: a set of one value, all values, whether a set may be asked, whether one lies within another, and the lowest value of a set by math/bits.TrailingZeros (its table as it is laid).
-/
import Derived.Test.YtlnffpofbfigaaaGreatDoorMaeaae773
import Derived.Shelf.Spec.TrailingZeros
import Derived.Below
namespace Go.Proofs.YtlnffpofbfigaaaGreatDoor
open Go.RowKit

/-- The library's table, as it is laid. -/
def TzAt (w : World) : Prop := TabAt 6 Lib.deBruijn64tab w

theorem TzAt.lt {w : World} (h : TzAt w) : 6 < w.heap.size := World.block_lt_of_cell? w _ (h 0 (by decide))

theorem TzAt.kept {w w' : World} (h : TzAt w) (hb : w'.heap[6]? = w.heap[6]?) : TzAt w' := fun j hj => (World.cell?_of_block (w := w) hb).trans (h j hj)

theorem TzAt.grown {w w' : World} (h : TzAt w) (hg : w.grownBy w' none) : TzAt w' := h.kept (hg.block _ h.lt (by simp))

theorem TzAt.below {n : Nat} {w w' : World} (h : TzAt w) (hb : Below n w w') (hn : 6 < n) : TzAt w' := h.kept (hb.block _ hn)

end Go.Proofs.YtlnffpofbfigaaaGreatDoor
