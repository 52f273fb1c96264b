/-
  The draws of chapter 4: some text of at most 60 bytes, some chain, some values.
-/
import Derived.Test.YtlnffpofbfigaaaDoorFDraw
namespace Go.Proofs.YtlnffpofbfigaaaDoor
open Go.RowKit

def FmPost (r P : Nat) (w : World) (e : Ending) (w' : World) : Prop :=
  ∃ s : ByteArray, e = .returned (.string s) ∧ s.size ≤ 60 ∧ Rd w' r (P + 40) ∧ w.grownBy w' (some r)

def StrPost4 (w : World) (e : Ending) (w' : World) : Prop :=
  ∃ s : ByteArray, e = .returned (.string s) ∧ s.size ≤ 60 ∧ w.grownBy w' none

def AtPost (w : World) (e : Ending) (w' : World) : Prop :=
  ∃ (n : Int) (s : ByteArray) (a b c : Int), e = .returned (.tuple #[.int .i64 n, .string s, .int .i64 a, .int .i64 b, .int .i64 c]) ∧ s.size ≤ 60 ∧ -1 ≤ n ∧ n ≤ 7 ∧ -16 ≤ a ∧ a ≤ 1016 ∧ -16 ≤ b ∧ b ≤ 1016 ∧ -16 ≤ c ∧ c ≤ 1016 ∧ w.grownBy w' none

end Go.Proofs.YtlnffpofbfigaaaDoor
