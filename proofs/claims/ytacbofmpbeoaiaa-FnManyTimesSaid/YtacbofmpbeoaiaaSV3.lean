/-
  The walk of the law of ManyTimes.
-/
import Derived.Test.YtacbofmpbeoaiaaSFacts
import Derived.Test.YtacbofmpbeoaiaaSDraw
namespace Go.Proofs.Ytacbofmpbeoaiaa
open Go.RowKit

set_option maxHeartbeats 1600000 in
theorem FnManyTimes_walk (a0 : Option Addr) (len0 cap0 : Nat) (z0 : List Int) (w : World) (w0 : IsRow .u8 w a0 len0 cap0 z0) :
    Calls Try.prog 9 #[.slice a0 len0 cap0] w fun e w' => e = .returned (.bool true) ∧ Below w.heap.size w w' := by
  by_cases hl : (1048576 : Int) < (len0 : Int)
  · clear w0
    go_enter Try.func9, Try.ntmps9
    go_wp2_with fail
    go_ret
    exact ⟨rfl, Below.refl _ _⟩
  · go_enter Try.func9, Try.ntmps9
    go_wp2_with fail
    refine (DrawManyTimes_any _ _ _ _ _ w0).mono ?_
    rintro e w1 ⟨n, a, t, rfl, hn1, hn2, ha1, ha2, ht1, ht2, hg⟩
    clear w0
    by_cases h : vokB n a = true ∧ inB t 0 9 = true
    · have k := vokB_of h.1
      have kt := inB_of h.2
      have key : ∀ m : Int, 0 ≤ m → m = manyW n a t → (t < n ∨ (n ≤ t ∧ (m == 0) = false ∧ (a != n) = false ∧ (m == n) = true ∧ (a == n) = true) ∨ (n ≤ t ∧ (m == 0) = true ∧ (a != n) = true ∧ (m == n) = false ∧ (a == n) = false)) := by
        rintro m - rfl
        obtain ⟨f1, f2, f3, f4, f5⟩ := many_facts h.1 h.2
        by_cases htn : t < n
        · exact Or.inl htn
        · by_cases han : a = n
          · refine Or.inr (Or.inl ⟨by omega, ?_, ?_, ?_, ?_⟩) <;> (have q := f2 han; simp; omega)
          · refine Or.inr (Or.inr ⟨by omega, ?_, ?_, ?_, ?_⟩) <;> (have q := f3 han (by omega); simp; omega)
      by_cases ht9 : t = 9
      · obtain rfl := ht9
        obtain ⟨f1, _, _, _, f5⟩ := many_facts h.1 h.2
        clear h
        rcases key _ f1 rfl with htn | ⟨htn, g1, g2, g3, g4⟩ | ⟨htn, g1, g2, g3, g4⟩
        · exact absurd htn (by omega)
        all_goals
          clear key
          go_wp2_with (first | (go_at_call 38; refine (many_any _ _ _ _).mono ?_; rintro e w' ⟨rfl, hg'⟩; replace hg := grownBy_trans hg hg') | (go_at_call 39; refine (smany_any _ _ _ _).mono ?_; rintro e w' ⟨rfl, hg'⟩; replace hg := grownBy_trans hg hg') | (go_at_call 30; refine (times_any _ _ _ _).mono ?_; rintro e w' ⟨rfl, hg'⟩; replace hg := grownBy_trans hg hg'))
          go_ret
          exact ⟨rfl, below_of hg⟩
      · obtain ⟨f1, _, _, f4, f5⟩ := many_facts h.1 h.2
        replace f4 := f4 ht9
        clear h
        rcases key _ f1 rfl with htn | ⟨htn, g1, g2, g3, g4⟩ | ⟨htn, g1, g2, g3, g4⟩
        all_goals
          clear key
          go_wp2_with (first | (go_at_call 38; refine (many_any _ _ _ _).mono ?_; rintro e w' ⟨rfl, hg'⟩; replace hg := grownBy_trans hg hg') | (go_at_call 39; refine (smany_any _ _ _ _).mono ?_; rintro e w' ⟨rfl, hg'⟩; replace hg := grownBy_trans hg hg') | (go_at_call 30; refine (times_any _ _ _ _).mono ?_; rintro e w' ⟨rfl, hg'⟩; replace hg := grownBy_trans hg hg'))
          go_ret
          exact ⟨rfl, below_of hg⟩
    · have r : manyW n a t = -1 := if_neg h
      clear h
      go_wp2_with (first | (go_at_call 38; refine (many_any _ _ _ _).mono ?_; rintro e w' ⟨rfl, hg'⟩; replace hg := grownBy_trans hg hg') | (go_at_call 39; refine (smany_any _ _ _ _).mono ?_; rintro e w' ⟨rfl, hg'⟩; replace hg := grownBy_trans hg hg') | (go_at_call 20; refine (alive_any _).mono ?_; rintro e w' ⟨rfl, rfl⟩))
      go_ret
      exact ⟨rfl, below_of hg⟩

end Go.Proofs.Ytacbofmpbeoaiaa
