/-
  Contracts of l20Steps, l20Value, l20Open: what they draw lies in its range, and they write the reader's own block alone. The code is of any length; the reader has been asked at most P times.
-/
import Derived.Test.YtlnffpofbfigaaaGreatDoorDraw
namespace Go.Proofs.YtlnffpofbfigaaaGreatDoor
open Go.RowKit

theorem Rd.alloc {w : World} {r P : Nat} (h : Rd w r P) (o : Obj) : Rd (w.alloc o) r P :=
  h.kept fun k hk => Below.heap_alloc w o k (Nat.lt_of_le_of_lt hk h.lt)
theorem Rd.grown {w w' : World} {r P : Nat} (h : Rd w r P) (hg : w.grownBy w' none) : Rd w' r P :=
  h.kept fun k hk => hg.block k (Nat.lt_of_le_of_lt hk h.lt) (by simp)

def StepsPost (r P : Nat) (w : World) (e : Ending) (w' : World) : Prop :=
  ∃ k : Int, e = .returned (.int .i64 k) ∧ -1 ≤ k ∧ k ≤ 7 ∧ Rd w' r (P + 2) ∧ w.grownBy w' (some r)

def ValuePost (r P : Nat) (w : World) (e : Ending) (w' : World) : Prop :=
  ∃ k : Int, e = .returned (.int .i64 k) ∧ -16 ≤ k ∧ k ≤ 1016 ∧ Rd w' r (P + 3) ∧ w.grownBy w' (some r)

end Go.Proofs.YtlnffpofbfigaaaGreatDoor
