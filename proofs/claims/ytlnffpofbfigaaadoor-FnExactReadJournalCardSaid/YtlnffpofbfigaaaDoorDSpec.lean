/-
  A desk as it lies: pairs of a chain's steps and a formula in a row of two cells each; the model's LaidOk, DeskOk.
-/
import Derived.Test.YtlnffpofbfigaaaDoorFSpecB
import Derived.Test.YtlnffpofbfigaaaDoorDesk
namespace Go.Proofs.YtlnffpofbfigaaaDoor
open Go.RowKit

def bs (l : List UInt8) : ByteArray := ⟨l.toArray⟩
theorem bl_bs (l : List UInt8) : bl (bs l) = l := rfl
theorem bs_bl (s : ByteArray) : bs (bl s) = s := rfl
theorem bs_size (l : List UInt8) : (bs l).size = l.length := by rw [bl_size, bl_bs]
def ldV (x : Ld) : Value := .agg #[.int .i64 x.1, .string (bs x.2)]
def ddV (a : Dd) : Value := .agg #[.int .i64 a.1, .int .i64 a.2.1, .string (bs a.2.2)]
def nilLd : Ld := (0, [])

/-- Pairs as they lie, one behind the other. -/
def LdsAt (w : World) (a : Option Addr) (xs : List Ld) : Prop :=
  xs.length ≤ maxLen ∧ (xs = [] ∨ ∃ b off, a = some ⟨b, off, none⟩ ∧ b < w.heap.size ∧ ∀ i, i < xs.length → w.cell? ⟨b, off + i * 2, none⟩ = some (.int .i64 (xs.getD i nilLd).1) ∧ w.cell? ⟨b, off + i * 2 + 1, none⟩ = some (.string (bs (xs.getD i nilLd).2)))
theorem LdsAt.kept {w w' : World} {a : Option Addr} {xs : List Ld} {row : Option Nat} (h : LdsAt w a xs) (hg : w.grownBy w' row) (hne : ∀ x, a = some x → some x.block ≠ row) : LdsAt w' a xs := by
  refine ⟨h.1, ?_⟩
  rcases h.2 with h | ⟨b, off, ha, hb, hc⟩
  · exact .inl h
  · exact .inr ⟨b, off, ha, Nat.lt_of_lt_of_le hb hg.size, fun i hi => ⟨(World.cell?_of_block (w := w) (a := ⟨b, off + i * 2, none⟩) (hg.block b hb (hne _ ha))).trans (hc i hi).1, (World.cell?_of_block (w := w) (a := ⟨b, off + i * 2 + 1, none⟩) (hg.block b hb (hne _ ha))).trans (hc i hi).2⟩⟩
theorem LdsAt.grown {w w' : World} {a : Option Addr} {xs : List Ld} (h : LdsAt w a xs) (hg : w.grownBy w' none) : LdsAt w' a xs := h.kept hg (by simp)
theorem LdsAt.nil (w : World) (a : Option Addr) : LdsAt w a [] := ⟨by simp, .inl rfl⟩

/-- A block of cells, as it lies. -/
def CellsAt (W : World) (b : Nat) (vs : Array Value) (T : TypeId) : Prop := W.heap[b]? = some (.cells vs T (0, 0))
theorem CellsAt.new (W : World) (vs : Array Value) (T : TypeId) : CellsAt (W.alloc (.cells vs T)) W.heap.size vs T := heap_alloc_new W _
theorem CellsAt.lt {W : World} {b : Nat} {vs : Array Value} {T : TypeId} (h : CellsAt W b vs T) : b < W.heap.size := (Array.getElem?_eq_some_iff.1 h).1
theorem CellsAt.kept {W W' : World} {row : Option Nat} {b : Nat} {vs : Array Value} {T : TypeId} (h : CellsAt W b vs T) (hg : W.grownBy W' row) (hne : some b ≠ row) : CellsAt W' b vs T := (hg.block b h.lt hne).trans h
theorem CellsAt.grown {W W' : World} {b : Nat} {vs : Array Value} {T : TypeId} (h : CellsAt W b vs T) (hg : W.grownBy W' none) : CellsAt W' b vs T := h.kept hg (by simp)
theorem CellsAt.cell {W : World} {b : Nat} {vs : Array Value} {T : TypeId} (h : CellsAt W b vs T) {i : Nat} {v : Value} (hi : vs[i]? = some v) : W.cell? ⟨b, i, none⟩ = some v := by
  simp [World.cell?, show W.heap[b]? = _ from h, hi]
theorem CellsAt.three {W : World} {b : Nat} {u v x : Value} {T : TypeId} (h : CellsAt W b #[u, v, x] T) : W.cell? ⟨b, 0, none⟩ = some u ∧ W.cell? ⟨b, 1, none⟩ = some v ∧ W.cell? ⟨b, 2, none⟩ = some x :=
  ⟨h.cell rfl, h.cell rfl, h.cell rfl⟩

theorem all_take {xs : List Ld} {k : Nat} (h : ∀ j, j < k → ldB (xs.getD j nilLd) = true) (hk : k = xs.length) : ∀ x ∈ xs, ldB x = true := by
  intro x hx
  obtain ⟨j, hj, rfl⟩ := List.mem_iff_getElem.1 hx
  have := h j (by omega)
  rwa [List.getD_eq_getElem?_getD, List.getElem?_eq_getElem hj] at this
theorem getLd_mem {xs : List Ld} {k : Nat} (h : k < xs.length) : xs.getD k nilLd ∈ xs := by
  rw [List.getD_eq_getElem?_getD, List.getElem?_eq_getElem h]
  exact List.getElem_mem h
theorem dkB_bad {x : Ld} {xs : List Ld} {k : Nat} (hk : k < xs.length) (h : ldB (xs.getD k nilLd) = false) : dkB (x, xs) = false := by
  cases e : dkB (x, xs)
  · rfl
  · rw [(dkB_of e).1 _ (getLd_mem hk)] at h; cases h
theorem dkB_all {x : Ld} {xs : List Ld} (h : ∀ y ∈ xs, ldB y = true) : dkB (x, xs) = (ldB x && decide (xs.length ≤ 8)) := by
  unfold dkB
  rw [List.all_eq_true.2 h]; rfl

def DkRel (xs : List Ld) (w : World) (i : Value) (wr : World) : Prop := ∃ k : Nat, k ≤ xs.length ∧ i = .int .i64 k ∧ (∀ j, j < k → ldB (xs.getD j nilLd) = true) ∧ w.grownBy wr none

end Go.Proofs.YtlnffpofbfigaaaDoor
