/-
  Rows of pairs that a call made: what lies in them, and what a cut of them leaves.
-/
import Derived.Test.YtlnffpofbfigaaaDoorDMade
import Derived.Laws.OwnMore
import Derived.OwnWalk
import Derived.Deep.RegionHeldLaw
namespace Go.Proofs.YtlnffpofbfigaaaDoor
open Go.RowKit

/-- The cells of a row of pairs. -/
def ldC : List Ld → List Value
  | [] => []
  | x :: l => .int .i64 x.1 :: .string (bs x.2) :: ldC l
theorem ldC_len : ∀ l : List Ld, (ldC l).length = l.length * 2
  | [] => rfl
  | x :: l => by show (ldC l).length + 1 + 1 = (l.length + 1) * 2; rw [ldC_len l]; omega
theorem ldC_app : ∀ l m : List Ld, ldC (l ++ m) = ldC l ++ ldC m
  | [], m => rfl
  | x :: l, m => by show _ :: _ :: ldC (l ++ m) = _; rw [ldC_app l m]; rfl
theorem ldC_at : ∀ (l : List Ld) (i : Nat), i < l.length → (ldC l)[i * 2]? = some (.int .i64 (l.getD i nilLd).1) ∧ (ldC l)[i * 2 + 1]? = some (.string (bs (l.getD i nilLd).2))
  | [], i, h => absurd h (by simp)
  | x :: l, 0, _ => ⟨rfl, rfl⟩
  | x :: l, i + 1, h => by
    have := ldC_at l i (by simpa using h)
    rw [show (i + 1) * 2 = i * 2 + 1 + 1 by omega]
    exact this
theorem ldC_one : ∀ (l : List Ld), ∀ u ∈ ldC l, u.oneCell' = true
  | [], u, h => absurd h (by simp [ldC])
  | x :: l, u, h => by
    rcases List.mem_cons.1 h with rfl | h
    · rfl
    · rcases List.mem_cons.1 h with rfl | h
      · rfl
      · exact ldC_one l u h
theorem ldC_get {l : List Ld} {j : Nat} {u : Value} (h : (ldC l)[j]? = some u) : ∃ i, i < l.length ∧ ((j = i * 2 ∧ u = .int .i64 (l.getD i nilLd).1) ∨ (j = i * 2 + 1 ∧ u = .string (bs (l.getD i nilLd).2))) := by
  have hj := (List.getElem?_eq_some_iff.1 h).1
  rw [ldC_len] at hj
  have hi : j / 2 < l.length := by omega
  have hc := ldC_at l (j / 2) hi
  refine ⟨j / 2, hi, ?_⟩
  rcases Nat.mod_two_eq_zero_or_one j with e | e
  · have ej : j = j / 2 * 2 := by omega
    rw [ej] at h
    have := h.symm.trans hc.1
    exact .inl ⟨ej, by simpa using this⟩
  · have ej : j = j / 2 * 2 + 1 := by omega
    rw [ej] at h
    have := h.symm.trans hc.2
    exact .inr ⟨ej, by simpa using this⟩
theorem LdsAt.news {w : World} {ad : Addr} {xs : List Ld} (h : LdsAt w (some ad) xs) : ∀ j u, (ldC xs)[j]? = some u → w.cell? (ad.add j) = some u := by
  intro j u hu
  obtain ⟨i, hi, hc⟩ := ldC_get hu
  rcases h.2 with h0 | ⟨b, off, ha, _, hx⟩
  · rw [h0] at hi; simp at hi
  · cases ha
    rw [add_none]
    rcases hc with ⟨rfl, rfl⟩ | ⟨rfl, rfl⟩
    · exact (hx i hi).1
    · rw [← Nat.add_assoc]; exact (hx i hi).2

/-- A desk's value, and what a call that hands a desk back leaves. -/
def dkV (d : Dk) (a : Option Addr) (cap : Nat) : Value := .agg #[.int .i64 d.1.1, .string (bs d.1.2), .slice a d.2.length cap]
theorem grow_own2 {a b c : World} {base : Nat} {v : Value} {n : Nat} {xs : List Value} {e : TypeId} (h : a.grownBy b none) (ho : b.ownsRow base e 2 v n xs) (hb : a.heap.size ≤ base) (k : b.grownBy c v.ownBlock) : a.grownBy c none :=
  ⟨k.os.trans h.os, k.tape.trans h.tape, k.output.trans h.output, Nat.le_trans h.size k.size, fun i hi _ => by
    refine (k.block i (Nat.lt_of_lt_of_le hi h.size) fun e => ?_).trans (h.block i hi (by simp))
    have := World.ownsRow.lt ho i e.symm
    omega⟩

/-! A desk that lies in a block of its own: the block of a result. -/
theorem CellsAt.put3 {W : World} {b : Nat} {u v t : Value} {T : TypeId} (h : CellsAt W b #[u, v, t] T) (x y z : Value) : CellsAt (((W.setCell ⟨b, 0, none⟩ x).setCell ⟨b, 1, none⟩ y).setCell ⟨b, 2, none⟩ z) b #[x, y, z] T := ((h.set 0 x).set 1 y).set 2 z
theorem CellsAt.second (w : World) (A : Obj) (vs : Array Value) (T : TypeId) : CellsAt ((w.alloc A).alloc (.cells vs T)) (w.heap.size + 1) vs T := by
  have e : (w.alloc A).heap.size = w.heap.size + 1 := by simp only [World.alloc, Array.size_push]
  rw [← e]; exact CellsAt.new _ vs T
theorem CellsAt.first (w : World) (B : Obj) (vs : Array Value) (T : TypeId) : CellsAt ((w.alloc (.cells vs T)).alloc B) w.heap.size vs T := (CellsAt.new w vs T).grown (World.grownBy_alloc _ _ none)
theorem CellsAt.third3 (w : World) (A B : Obj) (vs : Array Value) (T : TypeId) : CellsAt (((w.alloc A).alloc B).alloc (.cells vs T)) (w.heap.size + 1 + 1) vs T := by
  have e : ((w.alloc A).alloc B).heap.size = w.heap.size + 1 + 1 := by simp only [World.alloc, Array.size_push]
  rw [← e]; exact CellsAt.new _ vs T
theorem made3 (w : World) (A B C : Obj) : w.grownBy (((w.alloc A).alloc B).alloc C) none :=
  grownBy_trans (grownBy_trans (World.grownBy_alloc w A none) (World.grownBy_alloc _ B none)) (World.grownBy_alloc _ C none)
def zeroDk : Array Value := #[.int .i64 0, .string ⟨#[]⟩, .slice none 0 0]
theorem put3_grown {w w' : World} (b : Nat) (hg : w.grownBy w' none) (hb : w.heap.size ≤ b) (x y z : Value) : w.grownBy (((w'.setCell ⟨b, 0, none⟩ x).setCell ⟨b, 1, none⟩ y).setCell ⟨b, 2, none⟩ z) none :=
  grownBy_put (grownBy_put (grownBy_put hg hb 0 x) hb 1 y) hb 2 z
theorem put3_past (w : World) (b : Nat) (x y z : Value) : w.grownBy (((w.setCell ⟨b, 0, none⟩ x).setCell ⟨b, 1, none⟩ y).setCell ⟨b, 2, none⟩ z) (some b) :=
  grownBy_trans (grownBy_trans (grownBy_set w b 0 x) (grownBy_set _ b 1 y)) (grownBy_set _ b 2 z)
theorem drew_grown {a b : World} {row : Option Nat} (h : a.drew.grownBy b row) : a.grownBy b row := ⟨h.os, h.tape, h.output, h.size, h.block⟩

/-- At a step of a drawn region: an append by its run equation. -/
theorem step_append_run {P : Program} {w : World} {ops : Array Oper} {o : Oper} {a : Act} {K : Act → World → Prop} {Q : Exit → Act → World → Prop} {E : Prop} (hgd : o.guard = none) (s x : Operand) (t : TypeId)
    (ho : o.op = .call { callee := .builtin .append, args := #[s, x], argTypes := #[t, t] }) (v u : Value) (hs : a.eval s = v) (hx : a.eval x = u) (v' : Value) (w' : World)
    (hr : (Builtin.append_ #[t, t] o.type #[v, u]).run P w = .ok v' w') (h : K (a.put o.dst v') w') :
    if Region.wanted o (yielded ops a.tmps) = true then Oper.wp P o a w K Q else E := by
  have hw : Region.wanted o (yielded ops a.tmps) = true := by simp [Region.wanted, hgd]
  rw [if_pos hw]
  unfold Oper.wp execOp
  simp only [ho, resolve, invoke, builtin, Sem.run_bind, Sem.run_pure, Result.andThen_ok, List.map_toArray, List.map_cons, List.map_nil, hs, hx, hr]
  exact h

end Go.Proofs.YtlnffpofbfigaaaDoor
