/-
  The walks of the laws of NotOf, FollowsOf, LesserOf and GreaterOf.
-/
import Derived.Test.YtacbofmpbeoaiaaSFacts
import Derived.Test.YtacbofmpbeoaiaaSDraw
namespace Go.Proofs.Ytacbofmpbeoaiaa
open Go.RowKit

theorem FnNotOf_walk (a0 : Option Addr) (len0 cap0 : Nat) (z0 : List Int) (w : World) (w0 : IsRow .u8 w a0 len0 cap0 z0) :
    Calls Try.prog 3 #[.slice a0 len0 cap0] w fun e w' => e = .returned (.bool true) ∧ Below w.heap.size w w' := by
  by_cases hl : (1048576 : Int) < (len0 : Int)
  · clear w0
    go_enter Try.func3, Try.ntmps3
    go_wp2_with fail
    go_ret
    exact ⟨rfl, Below.refl _ _⟩
  · go_enter Try.func3, Try.ntmps3
    go_wp2_with fail
    refine (DrawNotOf_any _ _ _ _ _ w0).mono ?_
    rintro e w1 ⟨n, a, rfl, hn1, hn2, ha1, ha2, hg⟩
    clear w0
    cases h : vokB n a
    · have r := notW_f h
      go_wp2_with (first | (go_at_call 18; refine (not_any _ _ _).mono ?_; rintro e w' ⟨rfl, rfl⟩) | (go_at_call 19; refine (snot_any _ _ _).mono ?_; rintro e w' ⟨rfl, rfl⟩) | (go_at_call 20; refine (alive_any _).mono ?_; rintro e w' ⟨rfl, rfl⟩))
      go_ret
      exact ⟨rfl, below_of hg⟩
    · obtain ⟨f1, f2, f3, f4⟩ := not_facts h
      have k := vokB_of h
      go_wp2_with (first | (go_at_call 18; refine (not_any _ _ _).mono ?_; rintro e w' ⟨rfl, rfl⟩) | (go_at_call 19; refine (snot_any _ _ _).mono ?_; rintro e w' ⟨rfl, rfl⟩) | (go_at_call 21; refine (fol_any _ _ _ _).mono ?_; rintro e w' ⟨rfl, hg'⟩; replace hg := grownBy_trans hg hg') | (go_at_call 22; refine (vok_any _ _ _).mono ?_; rintro e w' ⟨rfl, rfl⟩))
      go_ret
      exact ⟨rfl, below_of hg⟩

theorem FnFollowsOf_walk (a0 : Option Addr) (len0 cap0 : Nat) (z0 : List Int) (w : World) (w0 : IsRow .u8 w a0 len0 cap0 z0) :
    Calls Try.prog 4 #[.slice a0 len0 cap0] w fun e w' => e = .returned (.bool true) ∧ Below w.heap.size w w' := by
  by_cases hl : (1048576 : Int) < (len0 : Int)
  · clear w0
    go_enter Try.func4, Try.ntmps4
    go_wp2_with fail
    go_ret
    exact ⟨rfl, Below.refl _ _⟩
  · go_enter Try.func4, Try.ntmps4
    go_wp2_with fail
    refine (DrawFollowsOf_any _ _ _ _ _ w0).mono ?_
    rintro e w1 ⟨n, a, b, rfl, hn1, hn2, ha1, ha2, hb1, hb2, hg⟩
    clear w0
    cases h : twoB n a b
    · have r := folW_f h
      go_wp2_with (first | (go_at_call 21; refine (fol_any _ _ _ _).mono ?_; rintro e w' ⟨rfl, hg'⟩; replace hg := grownBy_trans hg hg') | (go_at_call 24; refine (sfol_any _ _ _ _).mono ?_; rintro e w' ⟨rfl, rfl⟩) | (go_at_call 20; refine (alive_any _).mono ?_; rintro e w' ⟨rfl, rfl⟩))
      go_ret
      exact ⟨rfl, below_of hg⟩
    · obtain ⟨f1, f2, f3, f4, f5⟩ := fol_facts h
      obtain ⟨_, _, k⟩ := twoB_of h
      by_cases hab : a ≤ b
      · replace f2 := f2 hab
        clear f3
        have g1 : (folW n a b == n) = true := by simpa using f2
        have g2 : decide (a ≤ b) = true := by simpa using hab
        go_wp2_with (first | (go_at_call 21; refine (fol_any _ _ _ _).mono ?_; rintro e w' ⟨rfl, hg'⟩; replace hg := grownBy_trans hg hg') | (go_at_call 24; refine (sfol_any _ _ _ _).mono ?_; rintro e w' ⟨rfl, rfl⟩) | (go_at_call 25; refine (plus_any _ _ _ _).mono ?_; rintro e w' ⟨rfl, hg'⟩; replace hg := grownBy_trans hg hg') | (go_at_call 18; refine (not_any _ _ _).mono ?_; rintro e w' ⟨rfl, rfl⟩))
        go_ret
        exact ⟨rfl, below_of hg⟩
      · replace f3 := f3 hab
        clear f2
        have g1 : (folW n a b == n) = false := by simp; omega
        have g2 : decide (a ≤ b) = false := by simp; omega
        go_wp2_with (first | (go_at_call 21; refine (fol_any _ _ _ _).mono ?_; rintro e w' ⟨rfl, hg'⟩; replace hg := grownBy_trans hg hg') | (go_at_call 24; refine (sfol_any _ _ _ _).mono ?_; rintro e w' ⟨rfl, rfl⟩) | (go_at_call 25; refine (plus_any _ _ _ _).mono ?_; rintro e w' ⟨rfl, hg'⟩; replace hg := grownBy_trans hg hg') | (go_at_call 18; refine (not_any _ _ _).mono ?_; rintro e w' ⟨rfl, rfl⟩))
        go_ret
        exact ⟨rfl, below_of hg⟩

theorem FnLesserOf_walk (a0 : Option Addr) (len0 cap0 : Nat) (z0 : List Int) (w : World) (w0 : IsRow .u8 w a0 len0 cap0 z0) :
    Calls Try.prog 7 #[.slice a0 len0 cap0] w fun e w' => e = .returned (.bool true) ∧ Below w.heap.size w w' := by
  by_cases hl : (1048576 : Int) < (len0 : Int)
  · clear w0
    go_enter Try.func7, Try.ntmps7
    go_wp2_with fail
    go_ret
    exact ⟨rfl, Below.refl _ _⟩
  · go_enter Try.func7, Try.ntmps7
    go_wp2_with fail
    refine (DrawLesserOf_any _ _ _ _ _ w0).mono ?_
    rintro e w1 ⟨n, a, b, rfl, hn1, hn2, ha1, ha2, hb1, hb2, hg⟩
    clear w0
    cases h : twoB n a b
    · have r := lessW_f h
      go_wp2_with (first | (go_at_call 33; refine (less_any _ _ _ _).mono ?_; rintro e w' ⟨rfl, hg'⟩; replace hg := grownBy_trans hg hg') | (go_at_call 34; refine (sless_any _ _ _ _).mono ?_; rintro e w' ⟨rfl, rfl⟩) | (go_at_call 20; refine (alive_any _).mono ?_; rintro e w' ⟨rfl, rfl⟩))
      go_ret
      exact ⟨rfl, below_of hg⟩
    · obtain ⟨f1, f2, f3, f4, f5⟩ := less_facts h
      obtain ⟨_, _, k⟩ := twoB_of h
      have g5 : decide (lessW n a b ≤ b) = true := by simpa using f5
      go_wp2_with (first | (go_at_call 33; refine (less_any _ _ _ _).mono ?_; rintro e w' ⟨rfl, hg'⟩; replace hg := grownBy_trans hg hg') | (go_at_call 34; refine (sless_any _ _ _ _).mono ?_; rintro e w' ⟨rfl, rfl⟩) | (go_at_call 30; refine (times_any _ _ _ _).mono ?_; rintro e w' ⟨rfl, hg'⟩; replace hg := grownBy_trans hg hg') | (go_at_call 21; refine (fol_any _ _ _ _).mono ?_; rintro e w' ⟨rfl, hg'⟩; replace hg := grownBy_trans hg hg') | (go_at_call 28; refine (great_any _ _ _ _).mono ?_; rintro e w' ⟨rfl, hg'⟩; replace hg := grownBy_trans hg hg') | (go_at_call 18; refine (not_any _ _ _).mono ?_; rintro e w' ⟨rfl, rfl⟩))
      go_ret
      exact ⟨rfl, below_of hg⟩

theorem FnGreaterOf_walk (a0 : Option Addr) (len0 cap0 : Nat) (z0 : List Int) (w : World) (w0 : IsRow .u8 w a0 len0 cap0 z0) :
    Calls Try.prog 8 #[.slice a0 len0 cap0] w fun e w' => e = .returned (.bool true) ∧ Below w.heap.size w w' := by
  by_cases hl : (1048576 : Int) < (len0 : Int)
  · clear w0
    go_enter Try.func8, Try.ntmps8
    go_wp2_with fail
    go_ret
    exact ⟨rfl, Below.refl _ _⟩
  · go_enter Try.func8, Try.ntmps8
    go_wp2_with fail
    refine (DrawGreaterOf_any _ _ _ _ _ w0).mono ?_
    rintro e w1 ⟨n, a, b, rfl, hn1, hn2, ha1, ha2, hb1, hb2, hg⟩
    clear w0
    cases h : twoB n a b
    · have r := greatW_f h
      go_wp2_with (first | (go_at_call 28; refine (great_any _ _ _ _).mono ?_; rintro e w' ⟨rfl, hg'⟩; replace hg := grownBy_trans hg hg') | (go_at_call 36; refine (sgreat_any _ _ _ _).mono ?_; rintro e w' ⟨rfl, rfl⟩) | (go_at_call 20; refine (alive_any _).mono ?_; rintro e w' ⟨rfl, rfl⟩))
      go_ret
      exact ⟨rfl, below_of hg⟩
    · obtain ⟨f1, f2, f3, f4, f5⟩ := great_facts h
      obtain ⟨_, _, k⟩ := twoB_of h
      have g5 : decide (b ≤ greatW n a b) = true := by simpa using f5
      go_wp2_with (first | (go_at_call 28; refine (great_any _ _ _ _).mono ?_; rintro e w' ⟨rfl, hg'⟩; replace hg := grownBy_trans hg hg') | (go_at_call 36; refine (sgreat_any _ _ _ _).mono ?_; rintro e w' ⟨rfl, rfl⟩) | (go_at_call 21; refine (fol_any _ _ _ _).mono ?_; rintro e w' ⟨rfl, hg'⟩; replace hg := grownBy_trans hg hg'))
      go_ret
      exact ⟨rfl, below_of hg⟩

end Go.Proofs.Ytacbofmpbeoaiaa
