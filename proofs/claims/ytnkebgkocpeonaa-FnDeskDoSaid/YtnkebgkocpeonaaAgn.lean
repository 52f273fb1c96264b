/-
  impl.against: the first values for which a formula is not true: a loop over what impl.settings yields, left by its label. The chain has 1 to 6 steps.
-/
import Derived.Test.YtnkebgkocpeonaaASet
import Derived.WalkMore
namespace Go.Proofs.Ytnkebgkocpeonaa
open Go.RowKit Go.Shelf
attribute [local go_sem] Oper.semAt_some

/-- A block of cells, as it lies. -/
def BlkAt (W : World) (b : Nat) (vs : Array Value) (T : TypeId) : Prop := W.heap[b]? = some (.cells vs T (0, 0))
theorem BlkAt.new (W : World) (vs : Array Value) (T : TypeId) : BlkAt (W.alloc (.cells vs T)) W.heap.size vs T := World.alloc_heap_new W _
theorem BlkAt.lt {W : World} {b : Nat} {vs : Array Value} {T : TypeId} (h : BlkAt W b vs T) : b < W.heap.size := (Array.getElem?_eq_some_iff.1 h).1
theorem BlkAt.kept {W W' : World} {row : Option Nat} {b : Nat} {vs : Array Value} {T : TypeId} (h : BlkAt W b vs T) (hg : W.grownBy W' row) (hne : some b ≠ row) : BlkAt W' b vs T := (hg.block b h.lt hne).trans h
theorem BlkAt.grown {W W' : World} {b : Nat} {vs : Array Value} {T : TypeId} (h : BlkAt W b vs T) (hg : W.grownBy W' none) : BlkAt W' b vs T := h.kept hg (by simp)
theorem BlkAt.alloc {W : World} {b : Nat} {vs : Array Value} {T : TypeId} (h : BlkAt W b vs T) (o : Obj) : BlkAt (W.alloc o) b vs T := h.grown (World.grownBy_alloc W o none)
theorem BlkAt.cell {W : World} {b : Nat} {vs : Array Value} {T : TypeId} (h : BlkAt W b vs T) {i : Nat} {v : Value} (hi : vs[i]? = some v) : W.cell? ⟨b, i, none⟩ = some v := by
  simp [World.cell?, show W.heap[b]? = _ from h, hi]
theorem BlkAt.frozen {W : World} {b : Nat} {vs : Array Value} {T : TypeId} (h : BlkAt W b vs T) (i : Nat) : W.frozen? ⟨b, i, none⟩ = false := by
  simp [World.frozen?, show W.heap[b]? = _ from h]
theorem BlkAt.set {W : World} {b : Nat} {vs : Array Value} {T : TypeId} (h : BlkAt W b vs T) (i : Nat) (v : Value) : BlkAt (W.setCell ⟨b, i, none⟩ v) b (vs.setIfInBounds i v) T := by
  unfold BlkAt World.setCell
  simp only [Array.getElem?_modify, if_true, show W.heap[b]? = _ from h, Option.map_some]
  rfl
theorem BlkAt.other {W : World} {b : Nat} {vs : Array Value} {T : TypeId} (h : BlkAt W b vs T) {a : Addr} (hne : a.block ≠ b) (v : Value) : BlkAt (W.setCell a v) b vs T := by
  unfold BlkAt World.setCell
  simp only [Array.getElem?_modify, if_neg hne]
  exact h
theorem blk_own {β : Type} (b : Nat) (T : TypeId) (f : β → Array Value) : Own (fun s W => BlkAt W b (f s) T) := fun s X Y row hs hg hrow =>
  hs.kept hg (fun e' => by obtain ⟨o, ho, hc⟩ := hrow b e'.symm; rw [show X.heap[b]? = _ from hs] at ho; cases ho; cases hc)
theorem Own.and {β : Type} {I I' : β → World → Prop} (h : Own I) (h' : Own I') : Own (fun s W => I s W ∧ I' s W) := fun s W W' row hs hg hr => ⟨h s W W' row hs.1 hg hr, h' s W W' row hs.2 hg hr⟩
theorem own_pure {β : Type} (p : β → Prop) : Own (fun s (_ : World) => p s) := fun _ _ _ _ hs _ _ => hs

def zero4 : Array Value := #[.int .i64 0, .int .i64 0, .int .i64 0, .int .i64 0]
def set4 (N k : Nat) : Array Value := #[.int .i64 N, .int .i64 (tA N k), .int .i64 (tB N k), .int .i64 (tC N k)]

/-- What lies before impl.against's loop, from block b on. -/
def AgBlk (b N : Nat) (t : Tr) (F : Array Value) (f : Bool) (W : World) : Prop :=
  BlkAt W b #[.int .i64 N] 3 ∧ BlkAt W (b + 1) #[.iface (nodeT t) (nodeP t)] 90 ∧ BlkAt W (b + 1 + 1) zero4 98 ∧ BlkAt W (b + 1 + 1 + 1) F 98 ∧ BlkAt W (b + 1 + 1 + 1 + 1) #[.bool f] 4 ∧ BlkAt W (b + 1 + 1 + 1 + 1 + 1) #[.int .i64 N] 3
theorem AgBlk.grown {b N : Nat} {t : Tr} {F : Array Value} {f : Bool} {W W' : World} (h : AgBlk b N t F f W) (hg : W.grownBy W' none) : AgBlk b N t F f W' :=
  ⟨h.1.grown hg, h.2.1.grown hg, h.2.2.1.grown hg, h.2.2.2.1.grown hg, h.2.2.2.2.1.grown hg, h.2.2.2.2.2.grown hg⟩
theorem AgBlk.own {β : Type} (b N : Nat) (t : Tr) (F : β → Array Value) (f : Bool) : Own (fun s W => AgBlk b N t (F s) f W) :=
  Own.and (blk_own _ _ _) (Own.and (blk_own _ _ _) (Own.and (blk_own _ _ _) (Own.and (blk_own _ _ F) (Own.and (blk_own _ _ _) (blk_own _ _ _)))))
theorem AgBlk.made (N : Nat) (t : Tr) (w : World) : AgBlk w.heap.size N t zero4 false ((((((w.alloc (.cells #[.int .i64 N] 3)).alloc (.cells #[.iface (nodeT t) (nodeP t)] 90)).alloc (.cells #[.int .i64 0, .int .i64 0, .int .i64 0, .int .i64 0] 98)).alloc (.cells #[.int .i64 0, .int .i64 0, .int .i64 0, .int .i64 0] 98)).alloc (.cells #[.bool false] 4)).alloc (.cells #[.int .i64 N] 3)) := by
  have h0 := BlkAt.new w #[.int .i64 N] 3
  generalize hw0 : w.alloc (.cells #[.int .i64 N] 3) = w0 at *
  have e0 : w0.heap.size = w.heap.size + 1 := by rw [← hw0]; simp
  have h1 := BlkAt.new w0 #[.iface (nodeT t) (nodeP t)] 90
  have k0 := h0.alloc (.cells #[.iface (nodeT t) (nodeP t)] 90)
  generalize hw1 : w0.alloc (.cells #[.iface (nodeT t) (nodeP t)] 90) = w1 at *
  have e1 : w1.heap.size = w.heap.size + 1 + 1 := by rw [← hw1]; simp [e0]
  have h2 := BlkAt.new w1 #[.int .i64 0, .int .i64 0, .int .i64 0, .int .i64 0] 98
  generalize hw2 : w1.alloc (.cells #[.int .i64 0, .int .i64 0, .int .i64 0, .int .i64 0] 98) = w2 at *
  have g2 : w1.grownBy w2 none := by rw [← hw2]; exact World.grownBy_alloc _ _ none
  have e2 : w2.heap.size = w.heap.size + 1 + 1 + 1 := by rw [← hw2]; simp [e1]
  have h3 := BlkAt.new w2 #[.int .i64 0, .int .i64 0, .int .i64 0, .int .i64 0] 98
  generalize hw3 : w2.alloc (.cells #[.int .i64 0, .int .i64 0, .int .i64 0, .int .i64 0] 98) = w3 at *
  have g3 : w2.grownBy w3 none := by rw [← hw3]; exact World.grownBy_alloc _ _ none
  have e3 : w3.heap.size = w.heap.size + 1 + 1 + 1 + 1 := by rw [← hw3]; simp [e2]
  have h4 := BlkAt.new w3 #[.bool false] 4
  generalize hw4 : w3.alloc (.cells #[.bool false] 4) = w4 at *
  have g4 : w3.grownBy w4 none := by rw [← hw4]; exact World.grownBy_alloc _ _ none
  have e4 : w4.heap.size = w.heap.size + 1 + 1 + 1 + 1 + 1 := by rw [← hw4]; simp [e3]
  have h5 := BlkAt.new w4 #[.int .i64 N] 3
  have g5 : w4.grownBy (w4.alloc (.cells #[.int .i64 N] 3)) none := World.grownBy_alloc _ _ none
  rw [e0] at h1
  rw [e1] at h2
  rw [e2] at h3
  rw [e3] at h4
  rw [e4] at h5
  have g := grownBy_trans g2 (grownBy_trans g3 (grownBy_trans g4 g5))
  exact ⟨k0.grown g, h1.grown g, h2.grown (grownBy_trans g3 (grownBy_trans g4 g5)), h3.grown (grownBy_trans g4 g5), h4.grown g5, h5⟩

/-- The first values and the sign that there are some, stored. -/
theorem AgBlk.left {b N : Nat} {t : Tr} {W : World} (h : AgBlk b N t zero4 false W) (x : Nat) :
    AgBlk b N t (set4 N x) true (((((W.setCell ⟨b + 1 + 1 + 1, 0, none⟩ (.int .i64 N)).setCell ⟨b + 1 + 1 + 1, 1, none⟩ (.int .i64 (tA N x))).setCell ⟨b + 1 + 1 + 1, 2, none⟩ (.int .i64 (tB N x))).setCell ⟨b + 1 + 1 + 1, 3, none⟩ (.int .i64 (tC N x))).setCell ⟨b + 1 + 1 + 1 + 1, 0, none⟩ (.bool true)) := by
  obtain ⟨h0, h1, h2, h3, h4, h5⟩ := h
  refine ⟨?_, ?_, ?_, ?_, ?_, ?_⟩
  · exact ((((h0.other (by simp <;> omega) _).other (by simp <;> omega) _).other (by simp <;> omega) _).other (by simp <;> omega) _).other (by simp <;> omega) _
  · exact ((((h1.other (by simp <;> omega) _).other (by simp <;> omega) _).other (by simp <;> omega) _).other (by simp <;> omega) _).other (by simp <;> omega) _
  · exact ((((h2.other (by simp <;> omega) _).other (by simp <;> omega) _).other (by simp <;> omega) _).other (by simp <;> omega) _).other (by simp <;> omega) _
  · exact ((((h3.set 0 _).set 1 _).set 2 _).set 3 _).other (by simp <;> omega) _
  · exact ((((h4.other (by simp <;> omega) _).other (by simp <;> omega) _).other (by simp <;> omega) _).other (by simp <;> omega) _).set 0 _
  · exact ((((h5.other (by simp <;> omega) _).other (by simp <;> omega) _).other (by simp <;> omega) _).other (by simp <;> omega) _).other (by simp <;> omega) _

theorem grown_of {w w' : World} (h : Below w.heap.size w w') : w.grownBy w' none := ⟨h.os, h.tape, h.output, h.size, fun k hk _ => h.block k hk⟩
/-- A value of four cells stored, an order drawn. -/
theorem BlkAt.stored {W : World} {b : Nat} {u0 u1 u2 u3 : Value} {T : TypeId} (h : BlkAt W b #[u0, u1, u2, u3] T) (v0 v1 v2 v3 : Value) :
    BlkAt ((((W.setCell ⟨b, 0, none⟩ v0).setCell ⟨b, 1, none⟩ v1).setCell ⟨b, 2, none⟩ v2).setCell ⟨b, 3, none⟩ v3).drew b #[v0, v1, v2, v3] T :=
  (((h.set 0 v0).set 1 v1).set 2 v2).set 3 v3

/-- What impl.against answers. -/
def agArr (N : Nat) (t : Tr) : Array Value := match agN N t with | some k => set4 N k | none => zero4
theorem agArr_n {N : Nat} {t : Tr} (h : agN N t = none) : agArr N t = zero4 := by unfold agArr; rw [h]
theorem agArr_s {N : Nat} {t : Tr} {k : Nat} (h : agN N t = some k) : agArr N t = set4 N k := by unfold agArr; rw [h]

end Go.Proofs.Ytnkebgkocpeonaa
