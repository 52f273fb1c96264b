/-
  The draws of chapter 2.
-/
import Derived.Test.YtacbofmpbeoaiaaDraw4
namespace Go.Proofs.Ytacbofmpbeoaiaa
open Go.RowKit

def TwoPost (r P : Nat) (w : World) (e : Ending) (w' : World) : Prop :=
  ∃ n v u : Int, e = .returned (.tuple #[.int .i64 n, .int .i64 v, .int .i64 u]) ∧ -1 ≤ n ∧ n ≤ 7 ∧ -16 ≤ v ∧ v ≤ 1016 ∧ -16 ≤ u ∧ u ≤ 1016 ∧ Rd w' r (P + 8) ∧ w.grownBy w' (some r)

theorem two_draw (w : World) (r P : Nat) (h : Rd w r P) (hP : P ≤ 90000) :
    Calls Try.prog 44 #[.pointer (some ⟨r, 0, none⟩)] w (TwoPost r P w) := by
  go_enter Try.func44, Try.ntmps44
  go_wp2_with fail
  refine (steps_draw _ _ _ _ h (by omega) (by omega) (by omega)).mono ?_
  rintro e w2 ⟨n, rfl, hn1, hn2, hr2, hg2⟩
  go_wp2_with fail
  refine (value_draw _ _ _ _ hr2 (by omega) (by omega) (by omega)).mono ?_
  rintro e w3 ⟨v, rfl, hv1, hv2, hr3, hg3⟩
  go_wp2_with fail
  refine (value_draw _ _ _ _ hr3 (by omega) (by omega) (by omega)).mono ?_
  rintro e w4 ⟨u, rfl, hu1, hu2, hr4, hg4⟩
  go_wp2_with fail
  go_ret3
  exact ⟨n, v, u, rfl, hn1, hn2, hv1, hv2, hu1, hu2, hr4, grownBy_trans (grownBy_trans hg2 hg3) hg4⟩

def Three (w : World) (e : Ending) (w' : World) : Prop :=
  ∃ n v u : Int, e = .returned (.tuple #[.int .i64 n, .int .i64 v, .int .i64 u]) ∧ -1 ≤ n ∧ n ≤ 7 ∧ -16 ≤ v ∧ v ≤ 1016 ∧ -16 ≤ u ∧ u ≤ 1016 ∧ w.grownBy w' none

theorem DrawNotOf_any (a : Option Addr) (len cap : Nat) (zs : List Int) (w : World) (h : IsRow .u8 w a len cap zs) :
    Calls Try.prog 17 #[.slice a len cap] w (Draw2Post (-1) 7 (-16) 1016 w) := by
  go_enter Try.func17, Try.ntmps17
  go_wp2_with fail
  refine (DrawLowestOf_any a len cap zs _ h).mono ?_
  rintro e w1 ⟨n, v, rfl, h1, h2, h3, h4, hg⟩
  clear h
  go_wp2_with fail
  go_ret2
  exact ⟨n, v, rfl, h1, h2, h3, h4, hg⟩

theorem DrawFollowsOf_any (a : Option Addr) (len cap : Nat) (zs : List Int) (w : World) (h : IsRow .u8 w a len cap zs) :
    Calls Try.prog 23 #[.slice a len cap] w (Three w) := by
  go_enter Try.func23, Try.ntmps23
  go_wp2_with fail
  refine (open_draw a len cap zs _ h).mono ?_
  rintro e w1 ⟨rfl, hr1, hg1⟩
  clear h
  go_wp2_with fail
  refine (two_draw _ _ _ hr1 (by omega)).mono ?_
  rintro e w2 ⟨n, v, u, rfl, h1, h2, h3, h4, h5, h6, hr2, hg2⟩
  go_wp2_with fail
  go_ret3
  exact ⟨n, v, u, rfl, h1, h2, h3, h4, h5, h6, grownBy_own hg1 hg2⟩

theorem DrawPlusOf_any (a : Option Addr) (len cap : Nat) (zs : List Int) (w : World) (h : IsRow .u8 w a len cap zs) :
    Calls Try.prog 26 #[.slice a len cap] w (Three w) := by
  go_enter Try.func26, Try.ntmps26
  go_wp2_with fail
  refine (open_draw a len cap zs _ h).mono ?_
  rintro e w1 ⟨rfl, hr1, hg1⟩
  clear h
  go_wp2_with fail
  refine (two_draw _ _ _ hr1 (by omega)).mono ?_
  rintro e w2 ⟨n, v, u, rfl, h1, h2, h3, h4, h5, h6, hr2, hg2⟩
  go_wp2_with fail
  go_ret3
  exact ⟨n, v, u, rfl, h1, h2, h3, h4, h5, h6, grownBy_own hg1 hg2⟩

theorem DrawTimesOf_any (a : Option Addr) (len cap : Nat) (zs : List Int) (w : World) (h : IsRow .u8 w a len cap zs) :
    Calls Try.prog 29 #[.slice a len cap] w (Three w) := by
  go_enter Try.func29, Try.ntmps29
  go_wp2_with fail
  refine (open_draw a len cap zs _ h).mono ?_
  rintro e w1 ⟨rfl, hr1, hg1⟩
  clear h
  go_wp2_with fail
  refine (two_draw _ _ _ hr1 (by omega)).mono ?_
  rintro e w2 ⟨n, v, u, rfl, h1, h2, h3, h4, h5, h6, hr2, hg2⟩
  go_wp2_with fail
  go_ret3
  exact ⟨n, v, u, rfl, h1, h2, h3, h4, h5, h6, grownBy_own hg1 hg2⟩

theorem DrawLesserOf_any (a : Option Addr) (len cap : Nat) (zs : List Int) (w : World) (h : IsRow .u8 w a len cap zs) :
    Calls Try.prog 32 #[.slice a len cap] w (Three w) := by
  go_enter Try.func32, Try.ntmps32
  go_wp2_with fail
  refine (open_draw a len cap zs _ h).mono ?_
  rintro e w1 ⟨rfl, hr1, hg1⟩
  clear h
  go_wp2_with fail
  refine (two_draw _ _ _ hr1 (by omega)).mono ?_
  rintro e w2 ⟨n, v, u, rfl, h1, h2, h3, h4, h5, h6, hr2, hg2⟩
  go_wp2_with fail
  go_ret3
  exact ⟨n, v, u, rfl, h1, h2, h3, h4, h5, h6, grownBy_own hg1 hg2⟩

theorem DrawGreaterOf_any (a : Option Addr) (len cap : Nat) (zs : List Int) (w : World) (h : IsRow .u8 w a len cap zs) :
    Calls Try.prog 35 #[.slice a len cap] w (Three w) := by
  go_enter Try.func35, Try.ntmps35
  go_wp2_with fail
  refine (open_draw a len cap zs _ h).mono ?_
  rintro e w1 ⟨rfl, hr1, hg1⟩
  clear h
  go_wp2_with fail
  refine (two_draw _ _ _ hr1 (by omega)).mono ?_
  rintro e w2 ⟨n, v, u, rfl, h1, h2, h3, h4, h5, h6, hr2, hg2⟩
  go_wp2_with fail
  go_ret3
  exact ⟨n, v, u, rfl, h1, h2, h3, h4, h5, h6, grownBy_own hg1 hg2⟩

theorem DrawManyTimes_any (a : Option Addr) (len cap : Nat) (zs : List Int) (w : World) (h : IsRow .u8 w a len cap zs) :
    Calls Try.prog 37 #[.slice a len cap] w (Three w) := by
  go_enter Try.func37, Try.ntmps37
  go_wp2_with fail
  refine (open_draw a len cap zs _ h).mono ?_
  rintro e w1 ⟨rfl, hr1, hg1⟩
  clear h
  go_wp2_with fail
  refine (steps_draw _ _ _ _ hr1 (by omega) (by omega) (by omega)).mono ?_
  rintro e w2 ⟨n, rfl, hn1, hn2, hr2, hg2⟩
  go_wp2_with fail
  refine (value_draw _ _ _ _ hr2 (by omega) (by omega) (by omega)).mono ?_
  rintro e w3 ⟨v, rfl, hv1, hv2, hr3, hg3⟩
  go_wp2_with fail
  refine (pick_any _ _ _ _ hr3 (by omega)).mono ?_
  rintro e w4 ⟨k1, rfl, hk1, hl1, hr4, hg4⟩
  go_wp2_with fail
  refine (pick_any _ _ _ _ hr4 (by omega)).mono ?_
  rintro e w5 ⟨k2, rfl, hk2, hl2, hr5, hg5⟩
  go_wp2_with fail
  go_ret3
  exact ⟨n, v, _, rfl, hn1, hn2, by omega, by omega, by omega, by omega, grownBy_own (grownBy_own (grownBy_own (grownBy_own hg1 hg2) hg3) hg4) hg5⟩

end Go.Proofs.Ytacbofmpbeoaiaa
