/-
  DivisibleOk of impl: all pairs of values, one by one.
-/
import Derived.Test.YtihhegpgadhmfaaWayS
import Derived.Outline
import Derived.Deep.RegionWith
import Derived.Deep.LoopGhost
import Derived.Deep.DeepCutAuto
namespace Go.Proofs.Ytihhegpgadhmfaa
open Go.RowKit

def DRel (k n : Int) (w : World) (i : Value) (wr : World) : Prop := ∃ a : Int, 0 ≤ a ∧ a ≤ n + 1 ∧ i = .int .i64 a ∧ okTo k n a 0 ∧ w.grownBy wr none
def ERel (k n a : Int) (w : World) (g : Nat) (i : Value) (wr : World) : Prop := ∃ b : Int, g = (n + 1 - b).toNat ∧ 0 ≤ b ∧ b ≤ n + 1 ∧ i = .int .i64 b ∧ okTo k n a b ∧ w.grownBy wr none

/-- The last test of a round, as the walk spells it, where both sides are the same and where they are not. -/
theorem okD_le {k n a b : Int} (h : okD k n a b) (hc : a ≤ b) : (togV k n a (fbV k n a b) != a) = false := by unfold okD at h; rw [if_pos hc] at h; simpa using h
theorem okD_gt {k n a b : Int} (h : okD k n a b) (hc : ¬ a ≤ b) : (togV k n a (fbV k n a b) != b) = false := by unfold okD at h; rw [if_neg hc] at h; simpa using h
theorem noD_le {k n a b : Int} (h : ¬ okD k n a b) (hc : a ≤ b) : (togV k n a (fbV k n a b) != a) = true := by unfold okD at h; rw [if_pos hc] at h; simpa using h
theorem noD_gt {k n a b : Int} (h : ¬ okD k n a b) (hc : ¬ a ≤ b) : (togV k n a (fbV k n a b) != b) = true := by unfold okD at h; rw [if_neg hc] at h; simpa using h

theorem nilA_0 (F : Nat) (w : World) : (nilAhead (F + 1) 58 (.agg #[]) "loop.example/manyvalues/impl.together").run Try.prog w = .ok (some false) w := by kernel_rfl

theorem nilA_1 (F : Nat) (w : World) : (nilAhead (F + 1) 59 (.agg #[]) "loop.example/manyvalues/impl.together").run Try.prog w = .ok (some false) w := by kernel_rfl

theorem nilA_2 (F : Nat) (w : World) : (nilAhead (F + 1) 60 (.agg #[]) "loop.example/manyvalues/impl.together").run Try.prog w = .ok (some false) w := by kernel_rfl

end Go.Proofs.Ytihhegpgadhmfaa
