/-
  Contracts of LowestOf, both. No condition.
-/
import Derived.Test.YtahlmdlnemmhpaaGcd
namespace Go.Proofs.Ytahlmdlnemmhpaa
open Go.RowKit

def lowW (n v : Int) : Int := if vokB n v then fracW n v else -1
def lowP (n v : Int) : Int := if vokB n v then fracP n v else -1

def LowPost (n v : Int) (w : World) (e : Ending) (w' : World) : Prop :=
  e = .returned (.tuple #[.int .i64 (lowW n v), .int .i64 (lowP n v), .bool (vokB n v)]) ∧ w.grownBy w' none

theorem ret_low {n v a b : Int} {c : Bool} (h1 : a = lowW n v) (h2 : b = lowP n v) (h3 : c = vokB n v) :
    Ending.returned (.tuple #[.int .i64 a, .int .i64 b, .bool c]) = .returned (.tuple #[.int .i64 (lowW n v), .int .i64 (lowP n v), .bool (vokB n v)]) := by rw [h1, h2, h3]

end Go.Proofs.Ytahlmdlnemmhpaa
