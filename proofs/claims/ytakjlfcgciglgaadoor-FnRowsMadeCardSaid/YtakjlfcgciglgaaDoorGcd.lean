/-
  Contracts of l1Common and of reduced: both find the greatest common divisor. For numbers from 0 on, up to 1000000 (the whole at least 1).
-/
import Derived.Test.YtakjlfcgciglgaaDoorBase
import Derived.RowKit3
import Derived.Below
import Derived.Deep.QuietTactic
import Derived.BigQuiet
import Derived.IntWalk
import Derived.LoopTactic
namespace Go.Proofs.YtakjlfcgciglgaaDoor
open Go.RowKit

theorem ret_int {k : IntKind} {a b : Int} (h : a = b) : Ending.returned (.int k a) = .returned (.int k b) := by rw [h]

theorem gcd_step (A B : Nat) : Nat.gcd B (A % B) = Nat.gcd A B := by rw [Nat.gcd_comm A B, Nat.gcd_rec B A, Nat.gcd_comm]

def ComRel (A B : Nat) (a b : Value) : Prop := ∃ x y : Nat, a = .int .i64 x ∧ b = .int .i64 y ∧ Nat.gcd x y = Nat.gcd A B ∧ x ≤ 1000000 ∧ y ≤ 1000000

def RedRel (p n : Nat) (w : World) (d r : Value) (wr : World) : Prop :=
  ∃ x y : Nat, r = .int .i64 x ∧ d = .int .i64 y ∧ Nat.gcd x y = Nat.gcd p n ∧ x ≤ 1000000 ∧ y ≤ 1000000 ∧ 1 ≤ y ∧ w.grownBy wr none

def RedPost (p n : Nat) (w : World) (e : Ending) (w' : World) : Prop :=
  e = .returned (.tuple #[.int .i64 ((p / Nat.gcd p n : Nat) : Int), .int .i64 ((n / Nat.gcd p n : Nat) : Int)]) ∧ w.grownBy w' none

theorem ret_two {a b c d : Int} (h : a = c) (k : b = d) : Ending.returned (.tuple #[.int .i64 a, .int .i64 b]) = .returned (.tuple #[.int .i64 c, .int .i64 d]) := by rw [h, k]

def fracP (n v : Int) : Int := ((v.toNat / Nat.gcd v.toNat n.toNat : Nat) : Int)
def fracW (n v : Int) : Int := ((n.toNat / Nat.gcd v.toNat n.toNat : Nat) : Int)

def FracPost (n v : Int) (w : World) (e : Ending) (w' : World) : Prop :=
  e = .returned (.agg #[.int .i64 (fracP n v), .int .i64 (fracW n v)]) ∧ w.grownBy w' none

end Go.Proofs.YtakjlfcgciglgaaDoor
