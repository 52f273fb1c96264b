/-
  A loop that appends nothing.
-/
import Derived.Test.YtbhfbpmfbknalaaTSn
namespace Go.Proofs.Ytbhfbpmfbknalaa
open Go.RowKit

def SnZ (w : World) (i : Value) (wr : World) : Prop := i = .int .i64 0 ∧ T1 wr (w.heap.size + 1) (.slice none 0 0) ∧ T1 wr w.heap.size (.slice none 0 0) ∧ w.grownBy wr none
theorem snz_start (w : World) : SnZ w (.int .i64 0) ((w.alloc (.cells #[.slice none 0 0] 25)).alloc (.cells #[.slice none 0 0] 25)) := by
  have t1 := T1.new w (.slice none 0 0)
  have g1 : w.grownBy (w.alloc (.cells #[.slice none 0 0] 25)) none := World.grownBy_alloc _ _ none
  have s1 : (w.alloc (.cells #[.slice none 0 0] 25)).heap.size = w.heap.size + 1 := by simp
  have t2 := T1.new (w.alloc (.cells #[.slice none 0 0] 25)) (.slice none 0 0)
  have g2 : (w.alloc (.cells #[.slice none 0 0] 25)).grownBy ((w.alloc (.cells #[.slice none 0 0] 25)).alloc (.cells #[.slice none 0 0] 25)) none := World.grownBy_alloc _ _ none
  rw [s1] at t2
  exact ⟨rfl, t2, t1.grown g2, grownBy_trans g1 g2⟩

end Go.Proofs.Ytbhfbpmfbknalaa
