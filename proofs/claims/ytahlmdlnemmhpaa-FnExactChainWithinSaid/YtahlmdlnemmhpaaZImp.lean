/-
  What the program's small functions on sets answer: a set of one value, all values, whether a set may be asked, whether one lies within another, and the lowest value of a set by math/bits.TrailingZeros (its table as it is laid).
-/
import Derived.Test.YtahlmdlnemmhpaaSetI
import Derived.Shelf.Spec.TrailingZeros
import Derived.Below
namespace Go.Proofs.Ytahlmdlnemmhpaa
open Go.RowKit

theorem seven6 {k : Int} (h : 0 ≤ k ∧ k ≤ 6) : k = 0 ∨ k = 1 ∨ k = 2 ∨ k = 3 ∨ k = 4 ∨ k = 5 ∨ k = 6 := by omega

theorem setOf_int (k : Int) (h : 0 ≤ k ∧ k ≤ 6) (w : World) :
    Calls Try.prog 9 #[.int .i64 k] w fun e w' => e = .returned (.int .i64 (2 ^ k.toNat)) ∧ w = w' := by
  rcases seven6 h with rfl | rfl | rfl | rfl | rfl | rfl | rfl
  all_goals
    clear h
    go_enter Try.func9, Try.ntmps9
    go_wp2
    go_ret
    exact ⟨rfl, rfl⟩

theorem setOf_any (k : Nat) (h : k ≤ 6) (w : World) :
    Calls Try.prog 9 #[.int .i64 k] w fun e w' => e = .returned (.int .i64 ((2 ^ k : Nat) : Int)) ∧ w = w' := by
  have := setOf_int (k : Int) (by omega) w
  rw [Int.toNat_natCast] at this
  rw [Int.natCast_pow]
  exact this

theorem six6 {k : Int} (h : 1 ≤ k ∧ k ≤ 6) : k = 1 ∨ k = 2 ∨ k = 3 ∨ k = 4 ∨ k = 5 ∨ k = 6 := by omega

theorem okS_t {n s : Int} (hn : inB n 1 6 = true) (h0 : 0 ≤ s) (h1 : s ≤ 2 ^ (n.toNat + 1) - 1) : okS n s = true := by
  have h2 : (s.toNat : Int) < ((2 ^ (n.toNat + 1) : Nat) : Int) := by rw [Int.natCast_pow, Int.toNat_of_nonneg h0]; push_cast; omega
  unfold okS
  rw [hn, decide_eq_true h0, decide_eq_true (by omega : s.toNat < 2 ^ (n.toNat + 1))]
  rfl
theorem okS_f {n s : Int} (h : inB n 1 6 = false ∨ s < 0 ∨ 2 ^ (n.toNat + 1) - 1 < s) : okS n s = false := by
  unfold okS
  rcases h with h | h | h
  · rw [h]; rfl
  · rw [decide_eq_false (by omega : ¬ 0 ≤ s)]; simp
  · have h2 : ((2 ^ (n.toNat + 1) : Nat) : Int) ≤ s := by rw [Int.natCast_pow]; push_cast; omega
    rw [decide_eq_false (by omega : ¬ s.toNat < 2 ^ (n.toNat + 1))]; simp

end Go.Proofs.Ytahlmdlnemmhpaa
