/-
  The model's CountSayable. No condition.
-/
import Derived.Test.YtakjlfcgciglgaaDoorMSpec
namespace Go.Proofs.YtakjlfcgciglgaaDoor
open Go.RowKit

def scnI (n : Int) : Int := if inB n 1 6 = true then (sayN n.toNat : Int) else -1
theorem scnI_o {n : Int} (h : inB n 1 6 = false) : scnI n = -1 := if_neg (by rw [h]; simp)
theorem scnI_t {N : Nat} (h : 1 ≤ N ∧ N ≤ 6) : scnI N = (cntS N (N + 1) : Int) := by unfold scnI; rw [if_pos (inB_nat h)]; rfl
theorem cnt_tab : ([1, 2, 3, 4, 5, 6].all fun n => (List.range (n + 2)).all fun v => decide (cntS n v ≤ 10000) && decide (1 ≤ cntS n v)) = true := by decide +kernel
theorem cntS_le {n v : Nat} (hn : 1 ≤ n ∧ n ≤ 6) (hv : v ≤ n + 1) : 1 ≤ cntS n v ∧ cntS n v ≤ 10000 := by
  have h := List.all_eq_true.1 cnt_tab n (by simp; omega)
  have k := List.all_eq_true.1 h v (List.mem_range.2 (by omega))
  rw [Bool.and_eq_true] at k
  exact ⟨of_decide_eq_true k.2, of_decide_eq_true k.1⟩

end Go.Proofs.YtakjlfcgciglgaaDoor
