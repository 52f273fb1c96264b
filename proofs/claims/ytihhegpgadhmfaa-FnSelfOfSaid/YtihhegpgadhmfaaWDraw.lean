/-
  The draws of chapter 3.
-/
import Derived.Test.YtihhegpgadhmfaaSDraw
namespace Go.Proofs.Ytihhegpgadhmfaa
open Go.RowKit

def WayPost (r P : Nat) (w : World) (e : Ending) (w' : World) : Prop :=
  ∃ k : Int, e = .returned (.int .i64 k) ∧ -1000 ≤ k ∧ k ≤ 1000 ∧ Rd w' r (P + 3) ∧ w.grownBy w' (some r)

theorem way_draw (w : World) (r P : Nat) (h : Rd w r P) (hP : P ≤ 100000) :
    Calls Try.prog 37 #[.pointer (some ⟨r, 0, none⟩)] w (WayPost r P w) := by
  go_enter Try.func37, Try.ntmps37
  go_wp2_with fail
  refine (pick_any _ _ _ _ h (by omega)).mono ?_
  rintro e w1 ⟨k1, rfl, hk1, hl1, hrd1, hg1⟩
  go_wp2_with fail
  refine (pick_any _ _ _ _ hrd1 (by omega)).mono ?_
  rintro e w2 ⟨k2, rfl, hk2, hl2, hrd2, hg2⟩
  go_wp2_with fail
  refine (pick_any _ _ _ _ hrd2 (by omega)).mono ?_
  rintro e w3 ⟨k3, rfl, hk3, hl3, hrd3, hg3⟩
  go_wp2_with fail
  go_ret
  exact ⟨_, rfl, by omega, by omega, hrd3, grownBy_trans (grownBy_trans hg1 hg2) hg3⟩

def Four (w : World) (e : Ending) (w' : World) : Prop :=
  ∃ k n v u : Int, e = .returned (.tuple #[.int .i64 k, .int .i64 n, .int .i64 v, .int .i64 u]) ∧ -1 ≤ n ∧ n ≤ 7 ∧ w.grownBy w' none

def WThree (w : World) (e : Ending) (w' : World) : Prop :=
  ∃ k n v : Int, e = .returned (.tuple #[.int .i64 k, .int .i64 n, .int .i64 v]) ∧ -1 ≤ n ∧ n ≤ 7 ∧ w.grownBy w' none

def WTwo (w : World) (e : Ending) (w' : World) : Prop :=
  ∃ k n : Int, e = .returned (.tuple #[.int .i64 k, .int .i64 n]) ∧ -1 ≤ n ∧ n ≤ 7 ∧ w.grownBy w' none

theorem DrawTogetherBy_any (a : Option Addr) (len cap : Nat) (zs : List Int) (w : World) (h : IsRow .u8 w a len cap zs) :
    Calls Try.prog 13 #[.slice a len cap] w (Four w) := by
  go_enter Try.func13, Try.ntmps13
  go_wp2_with fail
  refine (open_draw a len cap zs _ h).mono ?_
  rintro e w1 ⟨rfl, hr1, hg1⟩
  clear h
  go_wp2_with fail
  refine (way_draw _ _ _ hr1 (by omega)).mono ?_
  rintro e w2 ⟨k, rfl, hk1, hk2, hr2, hg2⟩
  go_wp2_with fail
  refine (two_draw _ _ _ hr2 (by omega)).mono ?_
  rintro e w3 ⟨n, v, u, rfl, h1, h2, h3, h4, h5, h6, hr3, hg3⟩
  go_wp2_with fail
  refine bodyPost_ret (v := .tuple #[.int .i64 k, .int .i64 n, .int .i64 v, .int .i64 u]) (by simp [results, Try.results13, go_sem]) rfl ⟨k, n, v, u, rfl, h1, h2, grownBy_own (grownBy_own hg1 hg2) hg3⟩

theorem DrawFollowsBy_any (a : Option Addr) (len cap : Nat) (zs : List Int) (w : World) (h : IsRow .u8 w a len cap zs) :
    Calls Try.prog 17 #[.slice a len cap] w (Four w) := by
  go_enter Try.func17, Try.ntmps17
  go_wp2_with fail
  refine (DrawTogetherBy_any a len cap zs _ h).mono ?_
  rintro e w1 ⟨k, n, v, u, rfl, h1, h2, hg⟩
  clear h
  go_wp2_with fail
  refine bodyPost_ret (v := .tuple #[.int .i64 k, .int .i64 n, .int .i64 v, .int .i64 u]) (by simp [results, Try.results17, go_sem]) rfl ⟨k, n, v, u, rfl, h1, h2, hg⟩

theorem DrawNotBy_any (a : Option Addr) (len cap : Nat) (zs : List Int) (w : World) (h : IsRow .u8 w a len cap zs) :
    Calls Try.prog 21 #[.slice a len cap] w (WThree w) := by
  go_enter Try.func21, Try.ntmps21
  go_wp2_with fail
  refine (open_draw a len cap zs _ h).mono ?_
  rintro e w1 ⟨rfl, hr1, hg1⟩
  clear h
  go_wp2_with fail
  refine (way_draw _ _ _ hr1 (by omega)).mono ?_
  rintro e w2 ⟨k, rfl, hk1, hk2, hr2, hg2⟩
  go_wp2_with fail
  refine (steps_draw _ _ _ _ hr2 (by omega) (by omega) (by omega)).mono ?_
  rintro e w3 ⟨n, rfl, hn1, hn2, hr3, hg3⟩
  go_wp2_with fail
  refine (value_draw _ _ _ _ hr3 (by omega) (by omega) (by omega)).mono ?_
  rintro e w4 ⟨v, rfl, hv1, hv2, hr4, hg4⟩
  go_wp2_with fail
  go_ret3
  exact ⟨k, n, v, rfl, hn1, hn2, grownBy_own (grownBy_own (grownBy_own hg1 hg2) hg3) hg4⟩

theorem DrawDivisibleOk_any (a : Option Addr) (len cap : Nat) (zs : List Int) (w : World) (h : IsRow .u8 w a len cap zs) :
    Calls Try.prog 25 #[.slice a len cap] w (WTwo w) := by
  go_enter Try.func25, Try.ntmps25
  go_wp2_with fail
  refine (open_draw a len cap zs _ h).mono ?_
  rintro e w1 ⟨rfl, hr1, hg1⟩
  clear h
  go_wp2_with fail
  refine (way_draw _ _ _ hr1 (by omega)).mono ?_
  rintro e w2 ⟨k, rfl, hk1, hk2, hr2, hg2⟩
  go_wp2_with fail
  refine (steps_draw _ _ _ _ hr2 (by omega) (by omega) (by omega)).mono ?_
  rintro e w3 ⟨n, rfl, hn1, hn2, hr3, hg3⟩
  go_wp2_with fail
  go_ret2
  exact ⟨k, n, rfl, hn1, hn2, grownBy_own (grownBy_own hg1 hg2) hg3⟩

theorem DrawSelfOf_any (a : Option Addr) (len cap : Nat) (zs : List Int) (w : World) (h : IsRow .u8 w a len cap zs) :
    Calls Try.prog 28 #[.slice a len cap] w (WTwo w) := by
  go_enter Try.func28, Try.ntmps28
  go_wp2_with fail
  refine (open_draw a len cap zs _ h).mono ?_
  rintro e w1 ⟨rfl, hr1, hg1⟩
  clear h
  go_wp2_with fail
  refine (way_draw _ _ _ hr1 (by omega)).mono ?_
  rintro e w2 ⟨k, rfl, hk1, hk2, hr2, hg2⟩
  go_wp2_with fail
  refine (steps_draw _ _ _ _ hr2 (by omega) (by omega) (by omega)).mono ?_
  rintro e w3 ⟨n, rfl, hn1, hn2, hr3, hg3⟩
  go_wp2_with fail
  go_ret2
  exact ⟨k, n, rfl, hn1, hn2, grownBy_own (grownBy_own hg1 hg2) hg3⟩

end Go.Proofs.Ytihhegpgadhmfaa
