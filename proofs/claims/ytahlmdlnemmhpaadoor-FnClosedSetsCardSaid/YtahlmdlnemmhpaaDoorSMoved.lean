/-
  What MovedTo answers, and the contract of the model's MovedTo. No condition.
-/
import Derived.Test.YtahlmdlnemmhpaaDoorFracs
namespace Go.Proofs.YtahlmdlnemmhpaaDoor
open Go.RowKit

def mvO (n v m : Int) : Option Nat := if vokB n v && inB m 1 6 then mvN n.toNat v.toNat m.toNat else none
def mvI (n v m : Int) : Int := match mvO n v m with | some x => (x : Int) | none => -1
def mvB (n v m : Int) : Bool := (mvO n v m).isSome

def MvPost (n v m : Int) (w : World) (e : Ending) (w' : World) : Prop :=
  e = .returned (.tuple #[.int .i64 (mvI n v m), .bool (mvB n v m)]) ∧ w.grownBy w' none

theorem mv_none {n v m : Int} (h : mvO n v m = none) : Ending.returned (.tuple #[.int .i64 (-1), .bool false]) = .returned (.tuple #[.int .i64 (mvI n v m), .bool (mvB n v m)]) := by
  unfold mvI mvB; rw [h]; rfl
theorem mv_some {n v m : Int} {x : Nat} {a : Int} (h : mvO n v m = some x) (ha : a = (x : Int)) : Ending.returned (.tuple #[.int .i64 a, .bool true]) = .returned (.tuple #[.int .i64 (mvI n v m), .bool (mvB n v m)]) := by
  unfold mvI mvB; rw [h, ha]; rfl

theorem mul_le (a b : Int) (ha : 0 ≤ a ∧ a ≤ 6) (hb : 0 ≤ b ∧ b ≤ 6) : 0 ≤ a * b ∧ a * b ≤ 36 := by
  constructor
  · exact Int.mul_nonneg ha.1 hb.1
  · have h := Int.mul_le_mul ha.2 hb.2 hb.1 (show (0 : Int) ≤ 6 by omega)
    omega

end Go.Proofs.YtahlmdlnemmhpaaDoor
