/-
  The walk of the exact law of ChainWithin. No condition.
-/
import Derived.Test.YtahlmdlnemmhpaaZSpecW
namespace Go.Proofs.Ytahlmdlnemmhpaa
open Go.RowKit

theorem FnExactChainWithin_walk (a0 a1 : Int) (_w0 : (Lit.int .i64 a0).wf = true) (_w1 : (Lit.int .i64 a1).wf = true) (w : World) :
    Calls Try.prog 3 #[.int .i64 a0, .int .i64 a1] w fun e w' => e = .returned (.bool true) ∧ Below w.heap.size w w' := by
  go_enter Try.func3, Try.ntmps3
  go_wp2_with fail
  refine (swithin_chain _ _ _).mono ?_
  rintro e w1 ⟨rfl, rfl⟩
  go_wp2_with fail
  refine (within_chain _ _ _).mono ?_
  rintro e w2 ⟨rfl, g2⟩
  go_wp2_with fail
  go_ret
  exact ⟨rfl, below_of g2⟩

end Go.Proofs.Ytahlmdlnemmhpaa
