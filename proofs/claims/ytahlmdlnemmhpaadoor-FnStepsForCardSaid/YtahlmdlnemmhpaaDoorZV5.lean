/-
  The walk of the law FnStepsFor. The table of math/bits lies as it is laid.
-/
import Derived.Test.YtahlmdlnemmhpaaDoorZDraw2
import Derived.Outline
namespace Go.Proofs.YtahlmdlnemmhpaaDoor
open Go.RowKit

theorem stp_cases (n s : Int) : stpI n s = -1 ∨ ∃ N k : Nat, n = (N : Int) ∧ stpI n s = (k : Int) ∧ 1 ≤ k ∧ k ≤ N ∧ N ≤ 6 ∧ N % k = 0 := by
  cases hc : closI n s
  · left; unfold stpI; rw [hc]; rfl
  · right
    have ho : okS n s = true := by
      cases h : okS n s
      · rw [closI_f h] at hc; cases hc
      · rfl
    obtain ⟨N, S, rfl, rfl, h1, h6, hS⟩ := okS_of ho
    have hcn : closN N S = true := by rw [closN_nat ⟨h1, h6⟩ hS, ← closI_nat ⟨h1, h6⟩ hS]; exact hc
    have k := tab_of sets_ok ⟨h1, h6⟩ hS
    rw [hcn] at k
    simp only [Bool.not_true, Bool.false_or, Bool.and_eq_true, decide_eq_true_eq, beq_iff_eq] at k
    refine ⟨N, stpN N S, rfl, ?_, k.1.1.1, k.1.1.2, h6, k.1.2⟩
    unfold stpI
    rw [hc]
    rfl

theorem FnStepsFor_walk (a0 : Option Addr) (len0 cap0 : Nat) (z0 : List Int) (w : World) (w0 : IsRow .u8 w a0 len0 cap0 z0) (hT : TzAt w) :
    Calls Tryd.prog 7 #[.slice a0 len0 cap0] w fun e w' => e = .returned (.bool true) ∧ Below w.heap.size w w' := by
  by_cases hl : (1048576 : Int) < (len0 : Int)
  · clear w0
    go_enter Tryd.func7, Tryd.ntmps7
    go_wp2_with fail
    go_ret
    exact ⟨rfl, Below.refl _ _⟩
  · go_enter Tryd.func7, Tryd.ntmps7
    go_wp2_with fail
    refine (DrawStepsFor_any _ _ _ _ _ w0).mono ?_
    rintro e w1 ⟨n, s, rfl, hn1, hn2, hs1, hs2, g1⟩
    clear w0
    have ci := stepsFor_any n s w1 (hT.grown g1)
    have cs := fun w => sstepsFor_any n s w
    have G1 := Lib.hid g1
    clear g1 hT
    rcases stp_cases n s with h | ⟨N, k, rfl, h, k1, k2, k3, k4⟩
    · rw [h] at ci cs
      clear h
      go_wp2_with fail
      refine ci.mono ?_
      rintro e w2 ⟨rfl, g2⟩
      go_wp2_with fail
      refine (cs _).mono ?_
      rintro e w3 ⟨rfl, rfl⟩
      go_wp2_with fail
      refine (alive_any _).mono ?_
      rintro e w4 ⟨rfl, rfl⟩
      go_wp2_with fail
      go_ret
      exact ⟨rfl, below_of (grownBy_trans G1.out g2)⟩
    · rw [h] at ci cs
      have d1 : ((N : Int) % (k : Int) == 0) = true := by rw [beq_iff_eq]; exact_mod_cast k4
      clear h k4
      go_wp2_with fail
      refine ci.mono ?_
      rintro e w2 ⟨rfl, g2⟩
      go_wp2_with fail
      refine (cs _).mono ?_
      rintro e w3 ⟨rfl, rfl⟩
      go_wp2_with fail
      go_ret
      exact ⟨by simp, below_of (grownBy_trans G1.out g2)⟩

end Go.Proofs.YtahlmdlnemmhpaaDoor
