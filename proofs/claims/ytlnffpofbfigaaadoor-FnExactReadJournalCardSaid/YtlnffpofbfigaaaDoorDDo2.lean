/-
  What a deed makes of a desk: the model's DeskDo where chain or formula become others.
-/
import Derived.Test.YtlnffpofbfigaaaDoorDDo
import Derived.Deep.AppendLies
namespace Go.Proofs.YtlnffpofbfigaaaDoor
open Go.RowKit
def setsO (W : World) (b : Nat) : List (Nat × Value) → World
  | [] => W
  | p :: l => setsO (W.setCell ⟨b, p.1, none⟩ p.2) b l
/-- The pair that was made is another one, as the walk asks it. -/
theorem other_of {x y : Ld} (h : y ≠ x) : (y.1 == x.1) = false ∨ (y.1 = x.1 ∧ ((bs y.2).toList == (bs x.2).toList) = false) := by
  by_cases e : y.1 = x.1
  · right
    refine ⟨e, beq_false_of_ne fun k => h ?_⟩
    rw [ByteArray.toList_eq, ByteArray.toList_eq] at k
    exact Prod.ext e k
  · exact .inl (beq_false_of_ne e)
theorem sizes2 (w : World) (A B : Obj) {k : Nat} (h : k ≤ w.heap.size) : k ≤ ((w.alloc A).alloc B).heap.size := by show _ ≤ ((w.heap.push _).push _).size; rw [Array.size_push, Array.size_push]; omega
theorem CellsAt.pair2 {W : World} {b : Nat} {u v : Value} {T : TypeId} (h : CellsAt W b #[u, v] T) : W.cell? ⟨b, 0, none⟩ = some u ∧ W.cell? ⟨b, 1, none⟩ = some v := ⟨h.cell rfl, h.cell rfl⟩

/-- What a deed makes of any desk. -/
theorem noBack_of {D : Dd} {xs : List Ld} (h : D ≠ (6, 0, []) ∨ xs = []) : NoBack D.1 D.2.1 (bs D.2.2) xs := by
  obtain ⟨k, n, t⟩ := D
  unfold NoBack
  by_cases k6 : k = 6
  · by_cases n0 : n = 0
    · by_cases t0 : t = []
      · subst k6 n0 t0
        rcases h with h | h
        · exact absurd rfl h
        · exact .inr (.inr (.inr ⟨rfl, rfl, rfl, h⟩))
      · refine .inr (.inr (.inl ?_))
        show (bs t).toList.isEmpty = false
        rw [ByteArray.toList_eq]
        cases t with
        | nil => exact absurd rfl t0
        | cons c t => rfl
    · exact .inr (.inl (beq_false_of_ne n0))
  · exact .inl (beq_false_of_ne k6)
theorem raw_back {x : Ld} {n : Int} {t : List UInt8} : rawD x (6, n, t) = none := by simp [rawD]

end Go.Proofs.YtlnffpofbfigaaaDoor
