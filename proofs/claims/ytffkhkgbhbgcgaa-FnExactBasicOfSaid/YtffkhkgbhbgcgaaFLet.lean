/-
  impl.LettersIn: the methods by which a tree counts its letters, by induction on the tree. No condition.
-/
import Derived.Test.YtffkhkgbhbgcgaaFCell
namespace Go.Proofs.Ytffkhkgbhbgcgaa
open Go.RowKit Go.Maps Go.Joins

theorem ls_nil (t : Tr) (F : Nat) (w : World) : (nilAhead (F + 1) (nodeT t) (nodeP t) "loop.example/manyvalues/impl.letters").run Try.prog w = .ok (some false) w := by
  cases t <;> kernel_rfl

end Go.Proofs.Ytffkhkgbhbgcgaa
