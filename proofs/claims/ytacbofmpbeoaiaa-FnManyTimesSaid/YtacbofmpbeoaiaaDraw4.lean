/-
  What a draw of two or three numbers answers; the contract of DrawLowestOf.
-/
import Derived.Test.YtacbofmpbeoaiaaDraw3
namespace Go.Proofs.Ytacbofmpbeoaiaa
open Go.RowKit

def Draw2Post (lo1 hi1 lo2 hi2 : Int) (w : World) (e : Ending) (w' : World) : Prop :=
  ∃ n v : Int, e = .returned (.tuple #[.int .i64 n, .int .i64 v]) ∧ lo1 ≤ n ∧ n ≤ hi1 ∧ lo2 ≤ v ∧ v ≤ hi2 ∧ w.grownBy w' none

def Draw3Post (w : World) (e : Ending) (w' : World) : Prop :=
  ∃ n v m : Int, e = .returned (.tuple #[.int .i64 n, .int .i64 v, .int .i64 m]) ∧ -1 ≤ n ∧ n ≤ 7 ∧ -16 ≤ v ∧ v ≤ 1016 ∧ -1 ≤ m ∧ m ≤ 7 ∧ w.grownBy w' none

theorem DrawLowestOf_any (a : Option Addr) (len cap : Nat) (zs : List Int) (w : World) (h : IsRow .u8 w a len cap zs) :
    Calls Try.prog 40 #[.slice a len cap] w (Draw2Post (-1) 7 (-16) 1016 w) := by
  go_enter Try.func40, Try.ntmps40
  go_wp2_with fail
  refine (open_draw a len cap zs _ h).mono ?_
  rintro e w1 ⟨rfl, hr1, hg1⟩
  clear h
  go_wp2_with fail
  refine (steps_draw _ _ _ _ hr1 (by omega) (by omega) (by omega)).mono ?_
  rintro e w2 ⟨n, rfl, hn1, hn2, hr2, hg2⟩
  go_wp2_with fail
  refine (value_draw _ _ _ _ hr2 (by omega) (by omega) (by omega)).mono ?_
  rintro e w3 ⟨v, rfl, hv1, hv2, hr3, hg3⟩
  go_wp2_with fail
  go_ret2
  exact ⟨n, v, rfl, hn1, hn2, by omega, by omega, grownBy_own (grownBy_own hg1 hg2) hg3⟩

end Go.Proofs.Ytacbofmpbeoaiaa
