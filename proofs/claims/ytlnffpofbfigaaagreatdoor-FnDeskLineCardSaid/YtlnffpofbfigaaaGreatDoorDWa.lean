/-
  The walks of FnLaidOk and FnDeskNew.
-/
import Derived.Test.YtlnffpofbfigaaaGreatDoorDSame
import Derived.Test.YtlnffpofbfigaaaGreatDoorDAim
import Derived.Test.YtlnffpofbfigaaaGreatDoorFDraw2
namespace Go.Proofs.YtlnffpofbfigaaaGreatDoor
open Go.RowKit

theorem IsRow.up {k : IntKind} {w w' : World} {a : Option Addr} {len cap : Nat} {zs : List Int} (h : IsRow k w a len cap zs) (hg : w.grownBy w' none) : IsRow k w' a len cap zs := by
  rcases h with h | ⟨x, h1, h2, h3, h4, h5, h6⟩
  · exact .inl h
  · exact .inr ⟨x, h1, h2, h3, h4, fun i hi => hg.cell (h5 i hi) (by simp), h6⟩
def DLaidPost (w : World) (e : Ending) (w' : World) : Prop := ∃ x : Ld, e = .returned (.agg #[.int .i64 x.1, .string (bs x.2)]) ∧ w.grownBy w' none

theorem laid_v (x : Ld) {v : Bool} (h : ldB x = v) (w : World) : Calls Tryz.prog 78 #[.agg #[.int .i64 x.1, .string (bs x.2)]] w fun e w' => e = .returned (.bool v) ∧ w.grownBy w' none := by rw [← h]; exact ilaid_any x w
theorem slaid_v (x : Ld) {v : Bool} (h : ldB x = v) (w : World) : Calls Tryz.prog 49 #[.agg #[.int .i64 x.1, .string (bs x.2)]] w fun e w' => e = .returned (.bool v) ∧ w.grownBy w' none := by rw [← h]; exact slaid_any x w

end Go.Proofs.YtlnffpofbfigaaaGreatDoor
