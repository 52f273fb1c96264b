/-
  The draws of chapter 2.
-/
import Derived.Test.YtbalikemmilnaaaDraw4
namespace Go.Proofs.Ytbalikemmilnaaa
open Go.RowKit

def TwoPost (r P : Nat) (w : World) (e : Ending) (w' : World) : Prop :=
  ∃ n v u : Int, e = .returned (.tuple #[.int .i64 n, .int .i64 v, .int .i64 u]) ∧ -1 ≤ n ∧ n ≤ 7 ∧ -16 ≤ v ∧ v ≤ 1016 ∧ -16 ≤ u ∧ u ≤ 1016 ∧ Rd w' r (P + 8) ∧ w.grownBy w' (some r)

theorem two_draw (w : World) (r P : Nat) (h : Rd w r P) (hP : P ≤ 90000) :
    Calls Try.prog 43 #[.pointer (some ⟨r, 0, none⟩)] w (TwoPost r P w) := by
  go_enter Try.func43, Try.ntmps43
  go_wp2_with fail
  refine (steps_draw _ _ _ _ h (by omega) (by omega) (by omega)).mono ?_
  rintro e w2 ⟨n, rfl, hn1, hn2, hr2, hg2⟩
  go_wp2_with fail
  refine (value_draw _ _ _ _ hr2 (by omega) (by omega) (by omega)).mono ?_
  rintro e w3 ⟨v, rfl, hv1, hv2, hr3, hg3⟩
  go_wp2_with fail
  refine (value_draw _ _ _ _ hr3 (by omega) (by omega) (by omega)).mono ?_
  rintro e w4 ⟨u, rfl, hu1, hu2, hr4, hg4⟩
  go_wp2_with fail
  go_ret3
  exact ⟨n, v, u, rfl, hn1, hn2, hv1, hv2, hu1, hu2, hr4, grownBy_trans (grownBy_trans hg2 hg3) hg4⟩

def Three (w : World) (e : Ending) (w' : World) : Prop :=
  ∃ n v u : Int, e = .returned (.tuple #[.int .i64 n, .int .i64 v, .int .i64 u]) ∧ -1 ≤ n ∧ n ≤ 7 ∧ -16 ≤ v ∧ v ≤ 1016 ∧ -16 ≤ u ∧ u ≤ 1016 ∧ w.grownBy w' none

end Go.Proofs.Ytbalikemmilnaaa
