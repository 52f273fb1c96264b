/-
  The walk of the law of DivisibleOk.
-/
import Derived.Test.YtihhegpgadhmfaaDivS
import Derived.Test.YtihhegpgadhmfaaWDraw
namespace Go.Proofs.Ytihhegpgadhmfaa
open Go.RowKit

theorem divB_is {k n : Int} (hk : 0 ≤ k ∧ k < 3) (hn : 1 ≤ n ∧ n ≤ 6) : divB k n = (k != 2 || decide (n ≤ 2)) := by
  unfold divB
  rw [inB_t (by omega), inB_t hn]
  rfl

set_option maxHeartbeats 1600000 in
theorem FnDivisibleOk_walk (a0 : Option Addr) (len0 cap0 : Nat) (z0 : List Int) (w : World) (w0 : IsRow .u8 w a0 len0 cap0 z0) :
    Calls Try.prog 6 #[.slice a0 len0 cap0] w fun e w' => e = .returned (.bool true) ∧ Below w.heap.size w w' := by
  by_cases hl : (1048576 : Int) < (len0 : Int)
  · clear w0
    go_enter Try.func6, Try.ntmps6
    go_wp2_with fail
    go_ret
    exact ⟨rfl, Below.refl _ _⟩
  · go_enter Try.func6, Try.ntmps6
    go_wp2_with fail
    refine (DrawDivisibleOk_any _ _ _ _ _ w0).mono ?_
    rintro e w1 ⟨k, n, rfl, hn1, hn2, hg⟩
    clear w0
    by_cases h : (0 ≤ k ∧ k < 3) ∧ 1 ≤ n ∧ n ≤ 6
    · have e := divB_is h.1 h.2
      have e0 : divB 0 n = true := divB_is (by omega) h.2
      by_cases hk : k = 2
      · have g1 : (k != 2) = false := by simpa using hk
        by_cases hn : n ≤ 2
        · have g2 : divB k n = true := by rw [e, g1]; simpa using hn
          clear e hk
          go_wp2_with (first | (go_at_call 26; refine (div_any _ _ _).mono ?_; rintro e w' ⟨rfl, hg'⟩; replace hg := grownBy_trans hg hg') | (go_at_call 27; refine (sdiv_any _ _ _).mono ?_; rintro e w' ⟨rfl, rfl⟩) | (go_at_call 16; refine (alive_any _).mono ?_; rintro e w' ⟨rfl, rfl⟩))
          go_ret
          exact ⟨rfl, below_of hg⟩
        · have g2 : divB k n = false := by rw [e, g1]; simpa using hn
          clear e hk
          have g3 : decide (n ≤ 2) = false := by simpa using hn
          go_wp2_with (first | (go_at_call 26; refine (div_any _ _ _).mono ?_; rintro e w' ⟨rfl, hg'⟩; replace hg := grownBy_trans hg hg') | (go_at_call 27; refine (sdiv_any _ _ _).mono ?_; rintro e w' ⟨rfl, rfl⟩) | (go_at_call 16; refine (alive_any _).mono ?_; rintro e w' ⟨rfl, rfl⟩))
          go_ret
          exact ⟨rfl, below_of hg⟩
      · have g1 : (k != 2) = true := by simpa using hk
        have g2 : divB k n = true := by rw [e, g1]; rfl
        clear e hk
        go_wp2_with (first | (go_at_call 26; refine (div_any _ _ _).mono ?_; rintro e w' ⟨rfl, hg'⟩; replace hg := grownBy_trans hg hg') | (go_at_call 27; refine (sdiv_any _ _ _).mono ?_; rintro e w' ⟨rfl, rfl⟩) | (go_at_call 16; refine (alive_any _).mono ?_; rintro e w' ⟨rfl, rfl⟩))
        go_ret
        exact ⟨rfl, below_of hg⟩
    · have g2 : divB k n = false := by
        by_cases q : 0 ≤ k ∧ k < 3
        · exact divB_out (Or.inr (inB_f (by omega)))
        · exact divB_out (Or.inl (inB_f (by omega)))
      by_cases h1 : k < 0
      · clear h
        go_wp2_with (first | (go_at_call 26; refine (div_any _ _ _).mono ?_; rintro e w' ⟨rfl, hg'⟩; replace hg := grownBy_trans hg hg') | (go_at_call 27; refine (sdiv_any _ _ _).mono ?_; rintro e w' ⟨rfl, rfl⟩) | (go_at_call 16; refine (alive_any _).mono ?_; rintro e w' ⟨rfl, rfl⟩))
        go_ret
        exact ⟨rfl, below_of hg⟩
      · by_cases h2 : 3 ≤ k
        · clear h
          go_wp2_with (first | (go_at_call 26; refine (div_any _ _ _).mono ?_; rintro e w' ⟨rfl, hg'⟩; replace hg := grownBy_trans hg hg') | (go_at_call 27; refine (sdiv_any _ _ _).mono ?_; rintro e w' ⟨rfl, rfl⟩) | (go_at_call 16; refine (alive_any _).mono ?_; rintro e w' ⟨rfl, rfl⟩))
          go_ret
          exact ⟨rfl, below_of hg⟩
        · by_cases h3 : n < 1
          · clear h
            go_wp2_with (first | (go_at_call 26; refine (div_any _ _ _).mono ?_; rintro e w' ⟨rfl, hg'⟩; replace hg := grownBy_trans hg hg') | (go_at_call 27; refine (sdiv_any _ _ _).mono ?_; rintro e w' ⟨rfl, rfl⟩) | (go_at_call 16; refine (alive_any _).mono ?_; rintro e w' ⟨rfl, rfl⟩))
            go_ret
            exact ⟨rfl, below_of hg⟩
          · have h4 : 6 < n := by omega
            clear h
            go_wp2_with (first | (go_at_call 26; refine (div_any _ _ _).mono ?_; rintro e w' ⟨rfl, hg'⟩; replace hg := grownBy_trans hg hg') | (go_at_call 27; refine (sdiv_any _ _ _).mono ?_; rintro e w' ⟨rfl, rfl⟩) | (go_at_call 16; refine (alive_any _).mono ?_; rintro e w' ⟨rfl, rfl⟩))
            go_ret
            exact ⟨rfl, below_of hg⟩

end Go.Proofs.Ytihhegpgadhmfaa
