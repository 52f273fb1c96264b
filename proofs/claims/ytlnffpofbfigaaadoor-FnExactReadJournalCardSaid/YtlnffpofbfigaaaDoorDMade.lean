/-
  What a deed makes of a chain and a formula: the model's l12Made.
-/
import Derived.Test.YtlnffpofbfigaaaDoorDSpec
namespace Go.Proofs.YtlnffpofbfigaaaDoor
open Go.RowKit

/-- What is told of what a deed makes: a pair and whether it is one; the pair counts only then. -/
def MadePost (o : Option Ld) (w : World) (e : Ending) (w' : World) : Prop :=
  (∃ v b, e = .returned (.tuple #[v, .bool b]) ∧ (∃ y, v = ldV y) ∧ (match o with | some y => (ldB y = true → b = true ∧ v = ldV y) ∧ (ldB y = false → b = false) | none => b = false)) ∧ w.grownBy w' none

theorem CellsAt.frozen {W : World} {b : Nat} {vs : Array Value} {T : TypeId} (h : CellsAt W b vs T) (i : Nat) : W.frozen? ⟨b, i, none⟩ = false := by
  simp [World.frozen?, show W.heap[b]? = _ from h]
/-- The fourth of four new blocks, and the third. -/
theorem CellsAt.fourth (w : World) (A B C : Obj) (vs : Array Value) (T : TypeId) : CellsAt ((((w.alloc A).alloc B).alloc C).alloc (.cells vs T)) (w.heap.size + 1 + 1 + 1) vs T := by
  have e : (((w.alloc A).alloc B).alloc C).heap.size = w.heap.size + 1 + 1 + 1 := by simp only [World.alloc, Array.size_push]
  rw [← e]; exact CellsAt.new _ vs T
theorem CellsAt.third (w : World) (A B D : Obj) (vs : Array Value) (T : TypeId) : CellsAt ((((w.alloc A).alloc B).alloc (.cells vs T)).alloc D) (w.heap.size + 1 + 1) vs T := by
  have e : ((w.alloc A).alloc B).heap.size = w.heap.size + 1 + 1 := by simp only [World.alloc, Array.size_push]
  rw [← e]; exact (CellsAt.new ((w.alloc A).alloc B) vs T).grown (World.grownBy_alloc _ _ none)

theorem grownBy_put {w w' : World} {b : Nat} (h : w.grownBy w' none) (hb : w.heap.size ≤ b) (i : Nat) (v : Value) : w.grownBy (w'.setCell ⟨b, i, none⟩ v) none := by
  have k := grownBy_set w' b i v
  refine ⟨k.os.trans h.os, k.tape.trans h.tape, k.output.trans h.output, Nat.le_trans h.size k.size, fun c hc _ => ?_⟩
  rw [k.block c (Nat.lt_of_lt_of_le hc h.size) (by intro e; cases e; omega)]
  exact h.block c hc (by simp)
theorem made_grown {w w' : World} {A B C D : Obj} (hg : ((((w.alloc A).alloc B).alloc C).alloc D).drew.grownBy w' none) (u v : Value) : w.grownBy ((w'.setCell ⟨w.heap.size + 1 + 1, 0, none⟩ u).setCell ⟨w.heap.size + 1 + 1, 1, none⟩ v) none := by
  have a1 := World.grownBy_alloc w A none
  have a2 := grownBy_trans a1 (World.grownBy_alloc _ B none)
  have a3 := grownBy_trans a2 (World.grownBy_alloc _ C none)
  have a4 := grownBy_trans a3 (World.grownBy_alloc _ D none)
  exact grownBy_put (grownBy_put (grownBy_trans (grownBy_drew a4) hg) (by omega) 0 u) (by omega) 1 v
theorem CellsAt.set {W : World} {b : Nat} {vs : Array Value} {T : TypeId} (h : CellsAt W b vs T) (i : Nat) (v : Value) : CellsAt (W.setCell ⟨b, i, none⟩ v) b (vs.setIfInBounds i v) T := by
  unfold CellsAt World.setCell
  simp only [Array.getElem?_modify, if_true, show W.heap[b]? = _ from h, Option.map_some]
  rfl
theorem CellsAt.put2 {W : World} {b : Nat} {u v : Value} {T : TypeId} (h : CellsAt W b #[u, v] T) (x y : Value) : CellsAt ((W.setCell ⟨b, 0, none⟩ x).setCell ⟨b, 1, none⟩ y) b #[x, y] T := (h.set 0 x).set 1 y
theorem made_some {y : Ld} {v : Value} {w w' : World} (hv : v = ldV y) (h : w.grownBy w' none) : MadePost (some y) w (.returned (.tuple #[v, .bool (ldB y)])) w' :=
  ⟨⟨_, _, rfl, ⟨y, hv⟩, fun k => ⟨k, hv⟩, fun k => k⟩, h⟩
theorem made_none {y : Ld} {v : Value} {w w' : World} (hv : v = ldV y) (h : w.grownBy w' none) : MadePost none w (.returned (.tuple #[v, .bool false])) w' :=
  ⟨⟨_, _, rfl, ⟨y, hv⟩, rfl⟩, h⟩
theorem bs_app (l m : List UInt8) : bs l ++ bs m = bs (l ++ m) := bl_inj (by rw [bl_bs]; show ((bs l ++ bs m).data.toList) = _; simp [bs])
theorem bs_lit (l : List UInt8) : (⟨l.toArray⟩ : ByteArray) = bs l := rfl

end Go.Proofs.YtlnffpofbfigaaaDoor
