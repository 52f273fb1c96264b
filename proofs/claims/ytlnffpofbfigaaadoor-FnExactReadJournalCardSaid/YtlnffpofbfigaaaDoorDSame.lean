/-
  Two desks, the same or not: the laws' sameDesk and noDesk.
-/
import Derived.Test.YtlnffpofbfigaaaDoorDDo2
namespace Go.Proofs.YtlnffpofbfigaaaDoor
open Go.RowKit

def sameK (d e : Dk) : Bool := decide (d = e)
theorem sameK_self (d : Dk) : sameK d d = true := by unfold sameK; simp
theorem sameK_of {d e : Dk} (h : d ≠ e) : sameK d e = false := decide_eq_false h
def likeTo (x y : List Ld) (k : Nat) : Prop := ∀ j, j < k → x.getD j nilLd = y.getD j nilLd
theorem like_all {x y : List Ld} (hl : x.length = y.length) (h : likeTo x y x.length) : x = y := by
  apply List.ext_getElem hl
  intro i h1 h2
  have := h i h1
  simpa [List.getD_eq_getElem?_getD, h1, h2] using this
def LkRel (x y : List Ld) (w : World) (i : Value) (wr : World) : Prop := ∃ k : Nat, k ≤ x.length ∧ i = .int .i64 k ∧ likeTo x y k ∧ w.grownBy wr none
theorem eqs_of {x y : Ld} (h : y = x) : (y.1 == x.1) = true ∧ ((bs y.2).toList == (bs x.2).toList) = true := by
  subst h; exact ⟨by simp, by simp⟩
theorem two_desks {w w' : World} {A B : Array Value} {T U : TypeId} (hg : ((w.alloc (.cells A T)).alloc (.cells B U)).grownBy w' none) : CellsAt w' w.heap.size A T ∧ CellsAt w' (w.heap.size + 1) B U :=
  ⟨(CellsAt.first w _ _ _).grown hg, (CellsAt.second w _ _ _).grown hg⟩

end Go.Proofs.YtlnffpofbfigaaaDoor
