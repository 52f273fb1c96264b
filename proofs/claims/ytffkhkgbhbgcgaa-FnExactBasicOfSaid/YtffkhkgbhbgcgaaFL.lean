/-
  The walks of the exact laws of chapter 4. No condition.
-/
import Derived.Test.YtffkhkgbhbgcgaaFSpecB
import Derived.Test.YtffkhkgbhbgcgaaFAt
import Derived.Test.YtffkhkgbhbgcgaaFBas
import Derived.Test.YtffkhkgbhbgcgaaFLet
namespace Go.Proofs.Ytffkhkgbhbgcgaa
open Go.RowKit

theorem FnExactBasicOf_walk (a0 : ByteArray) (_w0 : a0.size ≤ maxLen) (w : World) :
    Calls Try.prog 9 #[.string a0] w fun e w' => e = .returned (.bool true) ∧ Below w.heap.size w w' := by
  by_cases hl : (1048576 : Int) < (a0.size : Int)
  · go_enter Try.func9, Try.ntmps9
    go_wp2_with fail
    go_ret
    exact ⟨rfl, Below.refl _ _⟩
  · go_enter Try.func9, Try.ntmps9
    go_wp2_with fail
    refine (sbasic_any _ _).mono ?_
    rintro e w1 ⟨rfl, rfl⟩
    go_wp2_with fail
    refine (basic_any _ _).mono ?_
    rintro e w2 ⟨rfl, g2⟩
    go_wp2_with fail
    go_ret
    exact ⟨rfl, below_of g2⟩

end Go.Proofs.Ytffkhkgbhbgcgaa
