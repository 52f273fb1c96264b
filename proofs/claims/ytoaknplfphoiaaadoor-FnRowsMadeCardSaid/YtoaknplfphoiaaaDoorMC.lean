/-
  What the functions of chapter 9 answer, as propositions: the laws' walks take them as they come.
-/
import Derived.Test.YtoaknplfphoiaaaDoorMSpec2
import Derived.Test.YtoaknplfphoiaaaDoorZImp
namespace Go.Proofs.YtoaknplfphoiaaaDoor
open Go.RowKit

def SaidC : Prop := ∀ (n : Int) (s : ByteArray) (w : World), Calls Tryd.prog 10 #[.int .i64 n, .string s] w (IntsPost (saidL n (bl s)) w)

def SayC : Prop := ∀ (n : Int) (a : Option Addr) (cap : Nat) (xs : List Int) (w : World), TzAt w → IntsAt w a xs → Calls Tryd.prog 14 #[.int .i64 n, .slice a xs.length cap] w fun e w' => e = .returned (.bool (sayB n xs)) ∧ w.grownBy w' none

def ScntC : Prop := ∀ (n : Int) (w : World), TzAt w → Calls Tryd.prog 21 #[.int .i64 n] w fun e w' => e = .returned (.int .i64 (scnI n)) ∧ w.grownBy w' none

theorem say_v (H : SayC) (n : Int) (a : Option Addr) (cap : Nat) (xs : List Int) {v : Bool} (h : sayB n xs = v) (w : World) (hT : TzAt w) (hx : IntsAt w a xs) : Calls Tryd.prog 14 #[.int .i64 n, .slice a xs.length cap] w fun e w' => e = .returned (.bool v) ∧ w.grownBy w' none := by rw [← h]; exact H n a cap xs w hT hx

theorem scnt_v (H : ScntC) (n : Int) {v : Int} (h : scnI n = v) (w : World) (hT : TzAt w) : Calls Tryd.prog 21 #[.int .i64 n] w fun e w' => e = .returned (.int .i64 v) ∧ w.grownBy w' none := by rw [← h]; exact H n w hT

theorem said_v (H : SaidC) (n : Int) (s : ByteArray) {xs : List Int} (h : saidL n (bl s) = xs) (w : World) : Calls Tryd.prog 10 #[.int .i64 n, .string s] w (IntsPost xs w) := by rw [← h]; exact H n s w

theorem ssaid_v (n : Int) (s : ByteArray) {xs : List Int} (h : saidL n (bl s) = xs) (w : World) : Calls Tryd.prog 12 #[.int .i64 n, .string s] w (IntsPost xs w) := by rw [← h]; exact ssaid_any n s w

end Go.Proofs.YtoaknplfphoiaaaDoor
