/-
  A row of integers that a loop appends to: the call's own slice.
-/
import Derived.Test.YthfikgaghinfbaaInts
namespace Go.Proofs.Ythfikgaghinfbaa
open Go.RowKit

theorem infoInt : (Try.prog.info? 3).map (fun i => (i.zero, i.size, i.bytes)) = some (some (.int .i64 0), 1, 8) := by kernel_rfl

/-- The row so far, by the call's own slice. -/
def RowRel (zs : List Int) (base : Nat) (w : World) (v : Value) (wr : World) : Prop := ∃ a cap, v = .slice a zs.length cap ∧ OwnI wr base a cap zs ∧ w.grownBy wr none

theorem row_more {w wr w1 : World} {v v' : Value} {zs : List Int} {j : Int} (hn : wr.ownsRow w.heap.size 3 1 v zs.length (zs.map (Value.int .i64))) (hg : w.grownBy wr none)
    (ho : w1.ownsRow w.heap.size 3 1 v' (zs.length + 1) (zs.map (Value.int .i64) ++ [.int .i64 j])) (hgr : wr.grownBy w1 v.ownBlock) : RowRel (zs ++ [j]) w.heap.size w v' w1 := by
  have e : zs.map (Value.int .i64) ++ [Value.int .i64 j] = (zs ++ [j]).map (Value.int .i64) := by simp
  rw [e] at ho
  obtain ⟨a, cap, rfl, _, hO⟩ := ownI_shape ho
  exact ⟨a, cap, rfl, hO, grownBy_row hg hn (Nat.le_refl _) hgr⟩

theorem grow_box {wr w1 : World} {o : Obj} {v : Value} (h : (wr.alloc o).grownBy w1 v.ownBlock) : wr.grownBy w1 v.ownBlock :=
  grownBy_trans (World.grownBy_alloc wr o _) h

theorem OwnI.made (w : World) : OwnI (w.alloc (.cells #[] 3)) w.heap.size (some ⟨w.heap.size, 0, none⟩) 0 [] :=
  World.ownsRow_lit w #[] 0 (Nat.le_refl _) (by unfold maxLen; omega) rfl

end Go.Proofs.Ythfikgaghinfbaa
