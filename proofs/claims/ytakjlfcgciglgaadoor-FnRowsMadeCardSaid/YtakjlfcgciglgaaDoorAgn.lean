/-
  impl.against: the first values for which a formula is not true: a loop over what impl.settings yields, left by its label. The chain has 1 to 6 steps.
-/
import Derived.Test.YtakjlfcgciglgaaDoorASet
import Derived.WalkMore
namespace Go.Proofs.YtakjlfcgciglgaaDoor
open Go.RowKit Go.Shelf
attribute [local go_sem] Oper.semAt_some

/-- A block of cells, as it lies. -/
def BlkAt (W : World) (b : Nat) (vs : Array Value) (T : TypeId) : Prop := W.heap[b]? = some (.cells vs T (0, 0))
theorem BlkAt.new (W : World) (vs : Array Value) (T : TypeId) : BlkAt (W.alloc (.cells vs T)) W.heap.size vs T := World.alloc_heap_new W _
theorem BlkAt.lt {W : World} {b : Nat} {vs : Array Value} {T : TypeId} (h : BlkAt W b vs T) : b < W.heap.size := (Array.getElem?_eq_some_iff.1 h).1
theorem BlkAt.kept {W W' : World} {row : Option Nat} {b : Nat} {vs : Array Value} {T : TypeId} (h : BlkAt W b vs T) (hg : W.grownBy W' row) (hne : some b ≠ row) : BlkAt W' b vs T := (hg.block b h.lt hne).trans h
theorem BlkAt.grown {W W' : World} {b : Nat} {vs : Array Value} {T : TypeId} (h : BlkAt W b vs T) (hg : W.grownBy W' none) : BlkAt W' b vs T := h.kept hg (by simp)
theorem BlkAt.alloc {W : World} {b : Nat} {vs : Array Value} {T : TypeId} (h : BlkAt W b vs T) (o : Obj) : BlkAt (W.alloc o) b vs T := h.grown (World.grownBy_alloc W o none)
theorem BlkAt.cell {W : World} {b : Nat} {vs : Array Value} {T : TypeId} (h : BlkAt W b vs T) {i : Nat} {v : Value} (hi : vs[i]? = some v) : W.cell? ⟨b, i, none⟩ = some v := by
  simp [World.cell?, show W.heap[b]? = _ from h, hi]
theorem BlkAt.frozen {W : World} {b : Nat} {vs : Array Value} {T : TypeId} (h : BlkAt W b vs T) (i : Nat) : W.frozen? ⟨b, i, none⟩ = false := by
  simp [World.frozen?, show W.heap[b]? = _ from h]
theorem BlkAt.set {W : World} {b : Nat} {vs : Array Value} {T : TypeId} (h : BlkAt W b vs T) (i : Nat) (v : Value) : BlkAt (W.setCell ⟨b, i, none⟩ v) b (vs.setIfInBounds i v) T := by
  unfold BlkAt World.setCell
  simp only [Array.getElem?_modify, if_true, show W.heap[b]? = _ from h, Option.map_some]
  rfl
theorem BlkAt.other {W : World} {b : Nat} {vs : Array Value} {T : TypeId} (h : BlkAt W b vs T) {a : Addr} (hne : a.block ≠ b) (v : Value) : BlkAt (W.setCell a v) b vs T := by
  unfold BlkAt World.setCell
  simp only [Array.getElem?_modify, if_neg hne]
  exact h
theorem blk_own {β : Type} (b : Nat) (T : TypeId) (f : β → Array Value) : Own (fun s W => BlkAt W b (f s) T) := fun s X Y row hs hg hrow =>
  hs.kept hg (fun e' => by obtain ⟨o, ho, hc⟩ := hrow b e'.symm; rw [show X.heap[b]? = _ from hs] at ho; cases ho; cases hc)
theorem Own.and {β : Type} {I I' : β → World → Prop} (h : Own I) (h' : Own I') : Own (fun s W => I s W ∧ I' s W) := fun s W W' row hs hg hr => ⟨h s W W' row hs.1 hg hr, h' s W W' row hs.2 hg hr⟩
theorem own_pure {β : Type} (p : β → Prop) : Own (fun s (_ : World) => p s) := fun _ _ _ _ hs _ _ => hs

def zero4 : Array Value := #[.int .i64 0, .int .i64 0, .int .i64 0, .int .i64 0]
def set4 (N k : Nat) : Array Value := #[.int .i64 N, .int .i64 (tA N k), .int .i64 (tB N k), .int .i64 (tC N k)]

theorem grown_of {w w' : World} (h : Below w.heap.size w w') : w.grownBy w' none := ⟨h.os, h.tape, h.output, h.size, fun k hk _ => h.block k hk⟩
/-- A value of four cells stored, an order drawn. -/
theorem BlkAt.stored {W : World} {b : Nat} {u0 u1 u2 u3 : Value} {T : TypeId} (h : BlkAt W b #[u0, u1, u2, u3] T) (v0 v1 v2 v3 : Value) :
    BlkAt ((((W.setCell ⟨b, 0, none⟩ v0).setCell ⟨b, 1, none⟩ v1).setCell ⟨b, 2, none⟩ v2).setCell ⟨b, 3, none⟩ v3).drew b #[v0, v1, v2, v3] T :=
  (((h.set 0 v0).set 1 v1).set 2 v2).set 3 v3

/-- What impl.against answers. -/
def agArr (N : Nat) (t : Tr) : Array Value := match agN N t with | some k => set4 N k | none => zero4
theorem agArr_n {N : Nat} {t : Tr} (h : agN N t = none) : agArr N t = zero4 := by unfold agArr; rw [h]
theorem agArr_s {N : Nat} {t : Tr} {k : Nat} (h : agN N t = some k) : agArr N t = set4 N k := by unfold agArr; rw [h]

end Go.Proofs.YtakjlfcgciglgaaDoor
