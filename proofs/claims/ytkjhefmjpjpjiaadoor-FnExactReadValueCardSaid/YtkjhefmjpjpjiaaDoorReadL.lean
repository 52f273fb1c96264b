/-
  The walks of the exact laws of ValueText and ReadValue. No condition.
-/
import Derived.Test.YtkjhefmjpjpjiaaDoorRead
namespace Go.Proofs.YtkjhefmjpjpjiaaDoor
open Go.RowKit

theorem FnExactValueText_walk (a0 a1 : Int) (_w0 : (Lit.int .i64 a0).wf = true) (_w1 : (Lit.int .i64 a1).wf = true) (w : World) :
    Calls Tryd.prog 6 #[.int .i64 a0, .int .i64 a1] w fun e w' => e = .returned (.bool true) ∧ Below w.heap.size w w' := by
  go_enter Tryd.func6, Tryd.ntmps6
  go_wp2_with (first | (go_at_call 13; refine (text_any _ _ _).mono ?_; rintro e w1 ⟨rfl, hg1⟩) | (go_at_call 15; refine (stext_any _ _ _).mono ?_; rintro e w2 ⟨rfl, hg2⟩))
  go_ret
  exact ⟨rfl, below_of (grownBy_trans hg2 hg1)⟩

theorem FnExactReadValue_walk (a0 : Int) (a1 : ByteArray) (_w0 : (Lit.int .i64 a0).wf = true) (_w1 : a1.size ≤ maxLen) (w : World) :
    Calls Tryd.prog 7 #[.int .i64 a0, .string a1] w fun e w' => e = .returned (.bool true) ∧ Below w.heap.size w w' := by
  by_cases hl : (1048576 : Int) < (a1.size : Int)
  · go_enter Tryd.func7, Tryd.ntmps7
    go_wp2_with fail
    go_ret
    exact ⟨rfl, Below.refl _ _⟩
  · go_enter Tryd.func7, Tryd.ntmps7
    go_wp2_with (first | (go_at_call 17; refine (read_any _ _ _).mono ?_; rintro e w1 ⟨rfl, hg1⟩) | (go_at_call 19; refine (sread_any _ _ _).mono ?_; rintro e w2 ⟨rfl, hg2⟩))
    go_ret
    exact ⟨rfl, below_of (grownBy_trans hg2 hg1)⟩

end Go.Proofs.YtkjhefmjpjpjiaaDoor
