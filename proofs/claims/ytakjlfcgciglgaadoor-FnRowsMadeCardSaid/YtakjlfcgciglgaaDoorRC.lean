/-
  What the functions of chapter 8 answer, as propositions: the laws' walks take them as they come.
-/
import Derived.Test.YtakjlfcgciglgaaDoorRSpecM
import Derived.Test.YtakjlfcgciglgaaDoorSignI
namespace Go.Proofs.YtakjlfcgciglgaaDoor
open Go.RowKit

def RowC : Prop := ∀ (n : Int) (a : Option Addr) (cap : Nat) (xs : List Int) (w : World), IntsAt w a xs → Calls Tryd.prog 24 #[.int .i64 n, .slice a xs.length cap] w fun e w' => e = .returned (.bool (rowB n xs)) ∧ w.grownBy w' none

theorem rowok_v (H : RowC) (n : Int) (a : Option Addr) (cap : Nat) (xs : List Int) {v : Bool} (h : rowB n xs = v) (w : World) (hx : IntsAt w a xs) : Calls Tryd.prog 24 #[.int .i64 n, .slice a xs.length cap] w fun e w' => e = .returned (.bool v) ∧ w.grownBy w' none := by rw [← h]; exact H n a cap xs w hx

theorem fol_v (n a b : Int) {v : Int} (h : folW n a b = v) (w : World) : Calls Tryd.prog 53 #[.int .i64 n, .int .i64 a, .int .i64 b] w fun e w' => e = .returned (.int .i64 v) ∧ w.grownBy w' none := by rw [← h]; exact fol_any n a b w

end Go.Proofs.YtakjlfcgciglgaaDoor
