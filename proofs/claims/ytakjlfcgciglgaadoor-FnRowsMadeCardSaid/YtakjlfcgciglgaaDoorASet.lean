/-
  impl.settings and the function that it hands back: it yields all values of the letters, by a, then by b, then by c: for every loop body that keeps what lay. The chain has 1 to 6 steps.
-/
import Derived.RangeFuncNested
import Derived.RangeFuncBound
import Derived.RangeFuncCalls
import Derived.RangeFuncLeaves
import Derived.Shelf.Abstract
import Derived.Shelf.RegionOpen
import Derived.WalkKit
import Derived.OwnWalkIn
import Derived.TacticsInMore
import Derived.LoopNIn
import Derived.LoopIn
import Derived.Test.YtakjlfcgciglgaaDoorFAt
import Derived.Test.YtakjlfcgciglgaaDoorAlw
namespace Go.Proofs.YtakjlfcgciglgaaDoor
open Go.RowKit Go.Shelf
attribute [local go_sem] Oper.semAt_some

/-- What a round keeps: the cell that the function reads. -/
def KpC (B : Nat) (X Y : World) : Prop := Y.cell? ⟨B, 0, none⟩ = X.cell? ⟨B, 0, none⟩
theorem kpC_t {B : Nat} {X Y Z : World} (h : KpC B X Y) (k : KpC B Y Z) : KpC B X Z := Eq.trans k h
theorem kpC_b {B : Nat} {w : World} (hB : B < w.heap.size) (W : World) (l : Nat) (o o' : Obj) (hl : w.heap.size ≤ l) (_ : W.heap[l]? = some o) (_ : o.isCells = false) (_ : o.isWalk = false) : KpC B W (W.putObj l o') :=
  World.cell?_of_block (World.putObj_heap_other (by show B ≠ l; omega))
theorem KpC.grown {B : Nat} {X Y : World} (hB : B < X.heap.size) (h : X.grownBy Y none) : KpC B X Y := World.cell?_of_block (h.block B hB (by simp))
theorem KpC.set {B : Nat} (X : World) {a : Addr} (h : a.block ≠ B) (v : Value) : KpC B X (X.setCell a v) := by unfold KpC; rw [World.cell?_setCell_other]; exact fun e => h (by rw [e])

/-- The settings' value at a place. -/
def encK (N : Nat) (k : Nat) : Array Value := #[.agg #[.int .i64 N, .int .i64 (tA N k), .int .i64 (tB N k), .int .i64 (tC N k)]]

end Go.Proofs.YtakjlfcgciglgaaDoor
