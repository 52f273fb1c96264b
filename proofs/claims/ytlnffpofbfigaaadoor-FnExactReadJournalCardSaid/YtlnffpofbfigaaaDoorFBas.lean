/-
  impl.BasicOf: a tree written with following and false alone, as texts of at most 60 bytes, by induction on the tree. No condition.
-/
import Derived.Test.YtlnffpofbfigaaaDoorPair
import Derived.Laws.EntriesVeiled
namespace Go.Proofs.YtlnffpofbfigaaaDoor
open Go.RowKit Go.Maps Go.Joins

theorem lb_F : (⟨#[48]⟩ : ByteArray) = lb Tr.F := rfl

theorem bs_nil (t : Tr) (F : Nat) (w : World) : (nilAhead (F + 1) (nodeT t) (nodeP t) "loop.example/manyvalues/impl.basic").run Tryd.prog w = .ok (some false) w := by
  cases t <;> kernel_rfl

theorem held3 {w0 w1 w2 : World} {a b c : Addr} {x y z : Value} (h : w1.cell? a = some x ∧ w1.cell? b = some y ∧ w1.cell? c = some z ∧ w0.grownBy w1 none) (hg : w1.grownBy w2 none) :
    w2.cell? a = some x ∧ w2.cell? b = some y ∧ w2.cell? c = some z ∧ w0.grownBy w2 none := ⟨cell_grown h.1 hg, cell_grown h.2.1 hg, cell_grown h.2.2.1 hg, grownBy_trans h.2.2.2 hg⟩

end Go.Proofs.YtlnffpofbfigaaaDoor
