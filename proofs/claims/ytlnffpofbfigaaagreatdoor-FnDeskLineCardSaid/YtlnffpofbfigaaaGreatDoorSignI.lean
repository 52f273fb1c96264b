/-
  The contracts of impl's five signs of two values, and of ManyTimes on both sides. No condition.
-/
import Derived.Test.YtlnffpofbfigaaaGreatDoorSignMap
namespace Go.Proofs.YtlnffpofbfigaaaGreatDoor
open Go.RowKit Go.Maps Go.Joins

theorem twoB_no {n a b : Int} (h : twoB n a b = false) : vokB n a = false ∨ (vokB n a = true ∧ vokB n b = false) := by
  unfold twoB at h
  cases h1 : vokB n a
  · exact Or.inl rfl
  · rw [h1, Bool.true_and] at h
    exact Or.inr ⟨rfl, h⟩

def manyN (n a : Int) : Nat → Int
  | 0 => n
  | k + 1 => timesW n (manyN n a k) a
def manyW (n a t : Int) : Int := if vokB n a = true ∧ inB t 0 9 = true then manyN n a t.toNat else -1
theorem manyW_t {n a t : Int} (h : vokB n a = true) (ht : inB t 0 9 = true) : manyW n a t = manyN n a t.toNat := if_pos ⟨h, ht⟩
theorem manyW_f {n a t : Int} (h : vokB n a = false ∨ inB t 0 9 = false) : manyW n a t = -1 := if_neg (by rintro ⟨h1, h2⟩; rw [h1, h2] at h; simp at h)
theorem manyN_ok {n a : Int} (h : vokB n a = true) : ∀ k, vokB n (manyN n a k) = true
  | 0 => by have k := vokB_of h; exact vokB_t (by unfold manyN; omega)
  | k + 1 => by
    have kk := vokB_of h
    have t := timesW_ok (twoB_mk (manyN_ok h k) h)
    exact vokB_t (by unfold manyN; omega)

def ManyRel (n a t : Int) (w : World) (v i : Value) (wr : World) : Prop :=
  ∃ k : Nat, (k : Int) ≤ t ∧ i = .int .i64 k ∧ v = .int .i64 (manyN n a k) ∧ w.grownBy wr none

end Go.Proofs.YtlnffpofbfigaaaGreatDoor
