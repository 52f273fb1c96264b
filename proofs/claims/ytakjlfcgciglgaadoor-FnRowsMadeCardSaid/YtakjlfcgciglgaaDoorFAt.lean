/-
  impl.ValueAt: the setting, the type switch that asks each node for its value, by induction on the tree. No condition.
-/
import Derived.Test.YtakjlfcgciglgaaDoorFCell
import Derived.Laws.EntriesVeiled
namespace Go.Proofs.YtakjlfcgciglgaaDoor
open Go.RowKit Go.Maps Go.Joins

def setV (n a b c : Int) : Value := .agg #[.int .i64 n, .int .i64 a, .int .i64 b, .int .i64 c]

theorem thrB_f1 {n a b c : Int} (h : vokB n a = false) : thrB n a b c = false := by unfold thrB; rw [h]; rfl
theorem thrB_f2 {n a b c : Int} (h : vokB n b = false) : thrB n a b c = false := by unfold thrB; rw [h]; cases vokB n a <;> rfl
theorem thrB_f3 {n a b c : Int} (h : vokB n c = false) : thrB n a b c = false := by unfold thrB; rw [h]; cases vokB n a <;> cases vokB n b <;> rfl

def ORel (n a b c : Int) (i : Value) : Prop :=
  ∃ k : Nat, i = .int .i64 k ∧ (k = 0 ∨ (k = 1 ∧ vokB n a = true) ∨ (k = 2 ∧ vokB n a = true ∧ vokB n b = true) ∨ (k = 3 ∧ vokB n a = true ∧ vokB n b = true ∧ vokB n c = true))

theorem held5 {w0 w1 w2 : World} {a b c d p : Addr} {x y z u v : Value} (h : w1.cell? a = some x ∧ w1.cell? b = some y ∧ w1.cell? c = some z ∧ w1.cell? d = some u ∧ w1.cell? p = some v ∧ w0.grownBy w1 none) (hg : w1.grownBy w2 none) :
    w2.cell? a = some x ∧ w2.cell? b = some y ∧ w2.cell? c = some z ∧ w2.cell? d = some u ∧ w2.cell? p = some v ∧ w0.grownBy w2 none :=
  ⟨cell_grown h.1 hg, cell_grown h.2.1 hg, cell_grown h.2.2.1 hg, cell_grown h.2.2.2.1 hg, cell_grown h.2.2.2.2.1 hg, grownBy_trans h.2.2.2.2.2 hg⟩
theorem held7 {w0 w1 w2 : World} {a b c d p q r : Addr} {x y z u v s t : Value} (h : w1.cell? a = some x ∧ w1.cell? b = some y ∧ w1.cell? c = some z ∧ w1.cell? d = some u ∧ w1.cell? p = some v ∧ w1.cell? q = some s ∧ w1.cell? r = some t ∧ w0.grownBy w1 none) (hg : w1.grownBy w2 none) :
    w2.cell? a = some x ∧ w2.cell? b = some y ∧ w2.cell? c = some z ∧ w2.cell? d = some u ∧ w2.cell? p = some v ∧ w2.cell? q = some s ∧ w2.cell? r = some t ∧ w0.grownBy w2 none :=
  ⟨cell_grown h.1 hg, cell_grown h.2.1 hg, cell_grown h.2.2.1 hg, cell_grown h.2.2.2.1 hg, cell_grown h.2.2.2.2.1 hg, cell_grown h.2.2.2.2.2.1 hg, cell_grown h.2.2.2.2.2.2.1 hg, grownBy_trans h.2.2.2.2.2.2.2 hg⟩

theorem old_cell {w : World} {C : Array Value} {T : TypeId} {i : Nat} {v : Value} (o : Obj) (h : C[i]? = some v) : ((w.alloc (.cells C T)).alloc o).drew.cell? ⟨w.heap.size, i, none⟩ = some v := by
  refine cell_grown (w1 := w.alloc (.cells C T)) ?_ (grownBy_drew (World.grownBy_alloc _ _ _))
  rw [World.cell?_alloc_mark]; exact h
theorem new_cell {w w1 : World} {C : Array Value} {T : TypeId} {i : Nat} {v : Value} (hs : w1.heap.size = w.heap.size + 1) (h : C[i]? = some v) : (w1.alloc (.cells C T)).drew.cell? ⟨w.heap.size + 1, i, none⟩ = some v := by
  have e := World.cell?_alloc_mark w1 C T (0, 0) i
  rw [hs] at e
  exact e.trans h

end Go.Proofs.YtakjlfcgciglgaaDoor
