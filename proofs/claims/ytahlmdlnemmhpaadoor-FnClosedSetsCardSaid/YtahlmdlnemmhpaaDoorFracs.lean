/-
  Plain mathematics of fractions in lowest terms, for chains of 1 to 6 steps: which value of a chain a fraction is. No program stands in it.
-/
import Derived.Test.YtahlmdlnemmhpaaDoorLow
namespace Go.Proofs.YtahlmdlnemmhpaaDoor

/-- The last value below k of the chain of m steps that is the fraction of v in the chain of n steps. -/
def findN (m n v : Nat) : Nat → Option Nat
  | 0 => none
  | k + 1 => if k / Nat.gcd k m = v / Nat.gcd v n ∧ m / Nat.gcd k m = n / Nat.gcd v n then some k else findN m n v k

def mvN (n v m : Nat) : Option Nat := if v * m % n = 0 then some (v * m / n) else none

def allUpTo (p : Nat → Bool) : Nat → Bool
  | 0 => p 0
  | k + 1 => p (k + 1) && allUpTo p k
theorem allUpTo_of {p : Nat → Bool} : ∀ {k : Nat}, allUpTo p k = true → ∀ i, i ≤ k → p i = true
  | 0, h, i, hi => by obtain rfl : i = 0 := by omega
                      exact h
  | k + 1, h, i, hi => by
    simp only [allUpTo, Bool.and_eq_true] at h
    by_cases e : i = k + 1
    · rw [e]; exact h.1
    · exact allUpTo_of h.2 i (by omega)

theorem find_table : allUpTo (fun n => allUpTo (fun m => allUpTo (fun v => decide (1 ≤ n ∧ 1 ≤ m ∧ v ≤ n → findN m n v (m + 1) = mvN n v m)) 6) 6) 6 = true := by decide +kernel

theorem find_is {n v m : Nat} (h1 : 1 ≤ n) (h2 : n ≤ 6) (h3 : 1 ≤ m) (h4 : m ≤ 6) (h5 : v ≤ n) : findN m n v (m + 1) = mvN n v m := by
  have a := allUpTo_of find_table n h2
  have b := allUpTo_of a m h4
  have c := allUpTo_of b v (by omega)
  exact of_decide_eq_true c ⟨h1, h3, h5⟩

end Go.Proofs.YtahlmdlnemmhpaaDoor
