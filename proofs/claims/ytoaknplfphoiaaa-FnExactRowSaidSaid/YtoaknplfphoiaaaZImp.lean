/-
  What the program's small functions on sets answer: a set of one value, all values, whether a set may be asked, whether one lies within another, and the lowest value of a set by math/bits.TrailingZeros (its table as it is laid).
-/
import Derived.Test.YtoaknplfphoiaaaSetI
import Derived.Shelf.Spec.TrailingZeros
import Derived.Below
namespace Go.Proofs.Ytoaknplfphoiaaa
open Go.RowKit

theorem seven6 {k : Int} (h : 0 ≤ k ∧ k ≤ 6) : k = 0 ∨ k = 1 ∨ k = 2 ∨ k = 3 ∨ k = 4 ∨ k = 5 ∨ k = 6 := by omega

theorem six6 {k : Int} (h : 1 ≤ k ∧ k ≤ 6) : k = 1 ∨ k = 2 ∨ k = 3 ∨ k = 4 ∨ k = 5 ∨ k = 6 := by omega

theorem okS_t {n s : Int} (hn : inB n 1 6 = true) (h0 : 0 ≤ s) (h1 : s ≤ 2 ^ (n.toNat + 1) - 1) : okS n s = true := by
  have h2 : (s.toNat : Int) < ((2 ^ (n.toNat + 1) : Nat) : Int) := by rw [Int.natCast_pow, Int.toNat_of_nonneg h0]; push_cast; omega
  unfold okS
  rw [hn, decide_eq_true h0, decide_eq_true (by omega : s.toNat < 2 ^ (n.toNat + 1))]
  rfl
theorem okS_f {n s : Int} (h : inB n 1 6 = false ∨ s < 0 ∨ 2 ^ (n.toNat + 1) - 1 < s) : okS n s = false := by
  unfold okS
  rcases h with h | h | h
  · rw [h]; rfl
  · rw [decide_eq_false (by omega : ¬ 0 ≤ s)]; simp
  · have h2 : ((2 ^ (n.toNat + 1) : Nat) : Int) ≤ s := by rw [Int.natCast_pow]; push_cast; omega
    rw [decide_eq_false (by omega : ¬ s.toNat < 2 ^ (n.toNat + 1))]; simp

end Go.Proofs.Ytoaknplfphoiaaa
