/-
  impl's LaidOk and DeskOk: the library looks for a pair that is none.
-/
import Derived.Test.YtlnffpofbfigaaaDoorFTree
import Derived.Test.YtlnffpofbfigaaaDoorDRow
namespace Go.Proofs.YtlnffpofbfigaaaDoor
open Go.RowKit

theorem lds_no {l : List Ld} {k : Nat} (hk : k < l.length) (h : ldB (l.getD k nilLd) = false) : l.all ldB = false := by
  rw [List.all_eq_false]
  exact ⟨_, getLd_mem hk, by rw [h]; simp⟩
theorem lds_yes {l : List Ld} (h : ∀ j, j < l.length → ldB (l.getD j nilLd) = true) : l.all ldB = true := List.all_eq_true.2 (all_take h rfl)
def DIx (xs : List Ld) (w : World) (e : Ending) (w' : World) : Prop := ∃ r : Int, e = .returned (.int .i64 r) ∧ decide (r ≥ 0) = (!xs.all ldB) ∧ w.grownBy w' none

end Go.Proofs.YtlnffpofbfigaaaDoor
