/-
  The walk of the law FnValueOk.
-/
import Derived.Test.YtkjhefmjpjpjiaaDraw3
import Derived.Test.YtkjhefmjpjpjiaaExact1
namespace Go.Proofs.Ytkjhefmjpjpjiaa
open Go.RowKit

def Draw2Post (lo1 hi1 lo2 hi2 : Int) (w : World) (e : Ending) (w' : World) : Prop :=
  ∃ n v : Int, e = .returned (.tuple #[.int .i64 n, .int .i64 v]) ∧ lo1 ≤ n ∧ n ≤ hi1 ∧ lo2 ≤ v ∧ v ≤ hi2 ∧ w.grownBy w' none

theorem DrawValueOk_any (a : Option Addr) (len cap : Nat) (zs : List Int) (w : World) (h : IsRow .u8 w a len cap zs) :
    Calls Try.prog 10 #[.slice a len cap] w (Draw2Post (-1) 7 (-1) 7 w) := by
  go_enter Try.func10, Try.ntmps10
  go_wp2_with fail
  refine (open_draw a len cap zs _ h).mono ?_
  rintro e w1 ⟨rfl, hr1, hg1⟩
  clear h
  go_wp2_with fail
  refine (steps_draw _ _ _ _ hr1 (by omega) (by omega) (by omega)).mono ?_
  rintro e w2 ⟨n, rfl, hn1, hn2, hr2, hg2⟩
  go_wp2_with fail
  refine (pick_any _ _ _ _ hr2 (by omega)).mono ?_
  rintro e w3 ⟨v, rfl, hv1, hv2, hr3, hg3⟩
  go_wp2_with fail
  go_ret2
  exact ⟨n, v - 1, rfl, hn1, hn2, by omega, by omega, grownBy_own (grownBy_own hg1 hg2) hg3⟩

theorem FnValueOk_walk (a0 : Option Addr) (len0 cap0 : Nat) (z0 : List Int) (w : World) (w0 : IsRow .u8 w a0 len0 cap0 z0) :
    Calls Try.prog 3 #[.slice a0 len0 cap0] w fun e w' => e = .returned (.bool true) ∧ Below w.heap.size w w' := by
  by_cases hl : (1048576 : Int) < (len0 : Int)
  · clear w0
    go_enter Try.func3, Try.ntmps3
    go_wp2_with fail
    go_ret
    exact ⟨rfl, Below.refl _ _⟩
  · have v11 : vokB 1 1 = true := vokB_t (by omega)
    go_enter Try.func3, Try.ntmps3
    go_wp2_with fail
    refine (DrawValueOk_any _ _ _ _ _ w0).mono ?_
    rintro e w1 ⟨n, v, rfl, hn1, hn2, hv1, hv2, hg⟩
    clear w0
    have hb := below_of hg
    clear hg
    by_cases h1 : n < 1
    · go_wp2_with (first | (go_at_call 11; refine (vok_any _ _ _).mono ?_; rintro e w' ⟨rfl, rfl⟩) | (go_at_call 12; refine (svok_any _ _ _).mono ?_; rintro e w' ⟨rfl, rfl⟩) | (go_at_call 13; refine (alive_any _).mono ?_; rintro e w' ⟨rfl, rfl⟩))
      go_ret
      exact ⟨rfl, hb⟩
    · by_cases h2 : (6 : Int) < n
      · go_wp2_with (first | (go_at_call 11; refine (vok_any _ _ _).mono ?_; rintro e w' ⟨rfl, rfl⟩) | (go_at_call 12; refine (svok_any _ _ _).mono ?_; rintro e w' ⟨rfl, rfl⟩) | (go_at_call 13; refine (alive_any _).mono ?_; rintro e w' ⟨rfl, rfl⟩))
        go_ret
        exact ⟨rfl, hb⟩
      · have v1 : vokB n 0 = true := vokB_t (by omega)
        have v2 : vokB n n = true := vokB_t (by omega)
        have v3 : vokB n (n + 1) = false := vokB_f (by omega)
        go_wp2_with (first | (go_at_call 11; refine (vok_any _ _ _).mono ?_; rintro e w' ⟨rfl, rfl⟩) | (go_at_call 12; refine (svok_any _ _ _).mono ?_; rintro e w' ⟨rfl, rfl⟩) | (go_at_call 13; refine (alive_any _).mono ?_; rintro e w' ⟨rfl, rfl⟩))
        go_ret
        exact ⟨rfl, hb⟩

end Go.Proofs.Ytkjhefmjpjpjiaa
