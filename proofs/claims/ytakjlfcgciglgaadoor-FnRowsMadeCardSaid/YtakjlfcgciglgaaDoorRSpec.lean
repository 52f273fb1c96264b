/-
  The model's FarOf, AlikeOf, RowOk, RowFar, RowAlike. No condition.
-/
import Derived.Test.YtakjlfcgciglgaaDoorFar
import Derived.Test.YtakjlfcgciglgaaDoorInts
import Derived.Test.YtakjlfcgciglgaaDoorSign
import Derived.Test.YtakjlfcgciglgaaDoorFCell
import Derived.Deep.RegionHeld3
import Derived.IntWalk
namespace Go.Proofs.YtakjlfcgciglgaaDoor
open Go.RowKit

/-! Rows. -/
theorem rowB_of {n : Int} {l : List Int} (h : rowB n l = true) : (1 ≤ n ∧ n ≤ 6) ∧ (1 ≤ l.length ∧ l.length ≤ 7) ∧ ∀ j, j < l.length → vokB n (l.getD j 0) = true := by
  unfold rowB at h
  rw [Bool.and_eq_true, Bool.and_eq_true, List.all_eq_true] at h
  have h1 := inB_of h.1.1
  have h2 := inB_of h.1.2
  refine ⟨h1, by omega, fun j hj => h.2 _ ?_⟩
  rw [List.getD_eq_getElem?_getD, List.getElem?_eq_getElem hj, Option.getD_some]
  exact List.getElem_mem hj
theorem rowB_no {n : Int} {l : List Int} {k : Nat} (hk : k < l.length) (h : vokB n (l.getD k 0) = false) : rowB n l = false := by
  cases e : rowB n l
  · rfl
  · have := (rowB_of e).2.2 k hk
    rw [h] at this; cases this
theorem rowB_end {n : Int} {l : List Int} (h : ∀ j, j < l.length → vokB n (l.getD j 0) = true) : rowB n l = (inB l.length 1 7 && inB n 1 6) := by
  have : l.all (vokB n) = true := by
    rw [List.all_eq_true]
    intro x hx
    obtain ⟨j, hj, rfl⟩ := List.mem_iff_getElem.1 hx
    have := h j hj
    rwa [List.getD_eq_getElem?_getD, List.getElem?_eq_getElem hj, Option.getD_some] at this
  unfold rowB
  rw [this, Bool.and_true, Bool.and_comm]
def RokRel (n : Int) (xs : List Int) (w : World) (i : Value) (wr : World) : Prop := ∃ k : Nat, k ≤ xs.length ∧ i = .int .i64 k ∧ (∀ j, j < k → vokB n (xs.getD j 0) = true) ∧ w = wr

/-- Two rows of a chain, of as many values. -/
def rowsB (n : Int) (x y : List Int) : Bool := rowB n x && (rowB n y && decide (x.length = y.length))
theorem rowsB_of {n : Int} {x y : List Int} (h : rowsB n x y = true) : rowB n x = true ∧ rowB n y = true ∧ x.length = y.length := by
  unfold rowsB at h
  simpa using h
def rfarW (n : Int) (x y : List Int) : Int := if rowsB n x y = true then gapS x y x.length else -1
theorem rfarW_t {n : Int} {x y : List Int} (h : rowsB n x y = true) : rfarW n x y = gapS x y x.length := if_pos h
theorem rfarW_f {n : Int} {x y : List Int} (h : rowsB n x y = false) : rfarW n x y = -1 := if_neg (by rw [h]; simp)
def ralkW (n : Int) (x y : List Int) : Int := if rowsB n x y = true then alkM n x y x.length else -1
theorem ralkW_t {n : Int} {x y : List Int} (h : rowsB n x y = true) : ralkW n x y = alkM n x y x.length := if_pos h
theorem ralkW_f {n : Int} {x y : List Int} (h : rowsB n x y = false) : ralkW n x y = -1 := if_neg (by rw [h]; simp)
theorem rows_at {n : Int} {x y : List Int} (h : rowsB n x y = true) {k : Nat} (hk : k < x.length) : twoB n (x.getD k 0) (y.getD k 0) = true := by
  obtain ⟨h1, h2, h3⟩ := rowsB_of h
  exact twoB_mk ((rowB_of h1).2.2 k hk) ((rowB_of h2).2.2 k (by omega))
theorem gapS_le {n : Int} {x y : List Int} (h : rowsB n x y = true) : ∀ k, k ≤ x.length → gapS x y k ≤ 6 * k := by
  have hn := (rowB_of (rowsB_of h).1).1
  intro k
  induction k with
  | zero => intro _; exact Int.le_refl _
  | succ k ih =>
    intro hk
    have h1 := ih (by omega)
    have h2 := gap_le (rows_at h (k := k) (by omega))
    unfold gapS
    omega
theorem alkM_pos {n : Int} {x y : List Int} (h : rowsB n x y = true) : ∀ k, k ≤ x.length → 0 ≤ alkM n x y k := by
  have hn := (rowB_of (rowsB_of h).1).1
  intro k
  induction k with
  | zero => intro _; show 0 ≤ n; omega
  | succ k ih =>
    intro hk
    have h1 := ih (by omega)
    have h2 := gap_le (rows_at h (k := k) (by omega))
    unfold alkM
    split <;> omega
theorem alkM_min (n : Int) (x y : List Int) (k : Nat) : (if n - gap (x.getD k 0) (y.getD k 0) < alkM n x y k then n - gap (x.getD k 0) (y.getD k 0) else alkM n x y k) = alkM n x y (k + 1) := by
  show _ = (if alkM n x y k ≤ n - gap (x.getD k 0) (y.getD k 0) then _ else _)
  split <;> split <;> omega

def RfRel (x y : List Int) (w : World) (s i : Value) (wr : World) : Prop := ∃ k : Nat, k ≤ x.length ∧ i = .int .i64 k ∧ s = .int .i64 (gapS x y k) ∧ w.grownBy wr none

theorem rfar_neg {n : Int} {x y : List Int} (h : rowsB n x y = false) : decide (rfarW n x y < 0) = true := by rw [rfarW_f h]; rfl
theorem rfar_pos {n : Int} {x y : List Int} (h : rowsB n x y = true) : decide (rfarW n x y < 0) = false := by
  rw [rfarW_t h]
  exact decide_eq_false (by have := gapS_pos x y x.length; omega)
def RaRel (n : Int) (x y : List Int) (w : World) (s i : Value) (wr : World) : Prop := ∃ k : Nat, k ≤ x.length ∧ i = .int .i64 k ∧ s = .int .i64 (alkM n x y k) ∧ w.grownBy wr none

end Go.Proofs.YtakjlfcgciglgaaDoor
