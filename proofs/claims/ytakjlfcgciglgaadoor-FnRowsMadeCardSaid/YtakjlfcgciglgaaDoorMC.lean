/-
  What the functions of chapter 9 answer, as propositions: the laws' walks take them as they come.
-/
import Derived.Test.YtakjlfcgciglgaaDoorMSpec2
import Derived.Test.YtakjlfcgciglgaaDoorZImp
namespace Go.Proofs.YtakjlfcgciglgaaDoor
open Go.RowKit

def SayC : Prop := ∀ (n : Int) (a : Option Addr) (cap : Nat) (xs : List Int) (w : World), TzAt w → IntsAt w a xs → Calls Tryd.prog 9 #[.int .i64 n, .slice a xs.length cap] w fun e w' => e = .returned (.bool (sayB n xs)) ∧ w.grownBy w' none

def ScntC : Prop := ∀ (n : Int) (w : World), TzAt w → Calls Tryd.prog 10 #[.int .i64 n] w fun e w' => e = .returned (.int .i64 (scnI n)) ∧ w.grownBy w' none

theorem say_v (H : SayC) (n : Int) (a : Option Addr) (cap : Nat) (xs : List Int) {v : Bool} (h : sayB n xs = v) (w : World) (hT : TzAt w) (hx : IntsAt w a xs) : Calls Tryd.prog 9 #[.int .i64 n, .slice a xs.length cap] w fun e w' => e = .returned (.bool v) ∧ w.grownBy w' none := by rw [← h]; exact H n a cap xs w hT hx

theorem scnt_v (H : ScntC) (n : Int) {v : Int} (h : scnI n = v) (w : World) (hT : TzAt w) : Calls Tryd.prog 10 #[.int .i64 n] w fun e w' => e = .returned (.int .i64 v) ∧ w.grownBy w' none := by rw [← h]; exact H n w hT

end Go.Proofs.YtakjlfcgciglgaaDoor
