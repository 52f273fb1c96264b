/-
  The model's LeastAt, AlwaysOk, AgainstOf, SameAt. No condition.
-/
import Derived.Test.YtakjlfcgciglgaaDoorFSpecV
import Derived.Test.YtakjlfcgciglgaaDoorAlwF
import Derived.BigQuiet
import Derived.Deep.QuietTactic
import Derived.Deep.RegionHeld3
import Derived.LoopTactic
import Derived.IntWalk
namespace Go.Proofs.YtakjlfcgciglgaaDoor
open Go.RowKit

/-- The values of the letters at a place, as the model reckons them. -/
theorem place_q {N k : Nat} (hk : k < cub N) : ∃ D : Int, 0 ≤ D ∧ D ≤ k ∧ (k : Int).tdiv ((N : Int) + 1) = D ∧ D.tdiv ((N : Int) + 1) = (tA N k : Int) ∧ D.tmod ((N : Int) + 1) = (tB N k : Int) ∧ (k : Int).tmod ((N : Int) + 1) = (tC N k : Int) := by
  refine ⟨((k / (N + 1) : Nat) : Int), Int.natCast_nonneg _, ?_, rfl, ?_, rfl, rfl⟩
  · exact Int.ofNat_le.2 (Nat.div_le_self k (N + 1))
  · rw [tA_eq hk]; rfl
/-- The number of places, as the model reckons it. -/
theorem cub_q {N : Nat} (hN : 1 ≤ N ∧ N ≤ 6) : ∃ M : Int, wrap64 (((N : Int) + 1) * ((N : Int) + 1)) = M ∧ wrap64 (M * ((N : Int) + 1)) = (cub N : Int) := by
  have h : N = 1 ∨ N = 2 ∨ N = 3 ∨ N = 4 ∨ N = 5 ∨ N = 6 := by omega
  rcases h with rfl | rfl | rfl | rfl | rfl | rfl <;> exact ⟨_, rfl, by decide +kernel⟩

theorem lowU_min (N : Nat) (t : Tr) (k : Nat) : (if atK N t k < lowU N t k then atK N t k else lowU N t k) = lowU N t (k + 1) := by
  by_cases h : lowU N t k ≤ atK N t k
  · rw [lowU_s1 h, if_neg (by omega)]
  · rw [lowU_s2 h, if_pos (by omega)]

theorem least_alw (n : Int) (l : List UInt8) : ((leastI n l == n) = true ∧ 0 < n) ↔ alwB n l = true := by
  cases hi : inB n 1 6
  · have := inB_not hi
    rw [leastI_o hi, alwB_o hi]
    simp
    omega
  · cases ho : fOf l with
    | none => rw [leastI_n ho, alwB_n ho]; simp; omega
    | some t =>
      obtain ⟨N, rfl, hN⟩ := nat_of hi
      rw [leastI_t ho hi, alwB_t ho hi, low_alw hN]
      exact ⟨fun h => h.1, fun h => ⟨h, by omega⟩⟩

end Go.Proofs.YtakjlfcgciglgaaDoor
