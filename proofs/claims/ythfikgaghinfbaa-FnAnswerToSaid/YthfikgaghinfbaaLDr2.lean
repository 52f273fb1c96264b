/-
  The draws of chapter 11, one for each law.
-/
import Derived.Test.YthfikgaghinfbaaLDr
import Derived.Deep.RegionHeld3
import Derived.IntWalk
namespace Go.Proofs.Ythfikgaghinfbaa
open Go.RowKit

theorem lresults4 {fn : Func} {t u v x : Tmp} (h : fn.results = #[.tmp t, .tmp u, .tmp v, .tmp x]) (tmps : Array Value) (P : Program) (w : World) :
    (results fn tmps).run P w = .ok (.tuple #[tmps.getD t undef, tmps.getD u undef, tmps.getD v undef, tmps.getD x undef]) w := by
  simp [results, h]
def GPost (w : World) (e : Ending) (w' : World) : Prop :=
  ∃ (n : Int) (xs : List Int) (a : Option Addr) (cap : Nat), e = .returned (.tuple #[.int .i64 n, .slice a xs.length cap]) ∧ 1 ≤ n ∧ n ≤ 4 ∧ xs.length ≤ 3 ∧ IntsAt w' a xs ∧ w.grownBy w' none
def GQPost (w : World) (e : Ending) (w' : World) : Prop :=
  ∃ (n : Int) (xs : List Int) (a : Option Addr) (cap : Nat) (q : Int), e = .returned (.tuple #[.int .i64 n, .slice a xs.length cap, .int .i64 q]) ∧ 1 ≤ n ∧ n ≤ 4 ∧ xs.length ≤ 3 ∧ IntsAt w' a xs ∧ -1 ≤ q ∧ q ≤ 14 ∧ w.grownBy w' none
def GAPost (w : World) (e : Ending) (w' : World) : Prop :=
  ∃ (n : Int) (xs : List Int) (a : Option Addr) (cap : Nat) (s : Int) (y : Bool), e = .returned (.tuple #[.int .i64 n, .slice a xs.length cap, .int .i64 s, .bool y]) ∧ 1 ≤ n ∧ n ≤ 4 ∧ xs.length ≤ 3 ∧ IntsAt w' a xs ∧ 0 ≤ s ∧ s ≤ 100 ∧ w.grownBy w' none

theorem DrawGameOk_any (a : Option Addr) (len cap : Nat) (zs : List Int) (w : World) (h : IsRow .u8 w a len cap zs) :
    Calls Try.prog 17 #[.slice a len cap] w (GPost w) := by
  go_enter Try.func17, Try.ntmps17
  go_wp2_with fail
  refine (open_draw a len cap zs _ h).mono ?_
  rintro e w1 ⟨rfl, hr1, hg1⟩
  clear h
  go_wp2_with fail
  refine (game_draw 3 _ _ _ hr1 (by omega) (by omega) (by omega)).mono ?_
  rintro e w2 ⟨n, xs, b, cb, rfl, n1, n4, x3, hI, hb, hr2, hg2⟩
  have HI := Lib.hid hI
  have HG := Lib.hid (grownBy_own hg1 hg2)
  clear hI hb hg2 hr1
  go_wp2_with fail
  go_ret2
  exact ⟨n, xs, b, cb, rfl, n1, n4, x3, HI.out, HG.out⟩

theorem DrawLeftOf_any (a : Option Addr) (len cap : Nat) (zs : List Int) (w : World) (h : IsRow .u8 w a len cap zs) :
    Calls Try.prog 26 #[.slice a len cap] w (GPost w) := by
  go_enter Try.func26, Try.ntmps26
  go_wp2_with fail
  refine (open_draw a len cap zs _ h).mono ?_
  rintro e w1 ⟨rfl, hr1, hg1⟩
  clear h
  go_wp2_with fail
  refine (game_draw 9 _ _ _ hr1 (by omega) (by omega) (by omega)).mono ?_
  rintro e w2 ⟨n, xs, b, cb, rfl, n1, n4, x3, hI, hb, hr2, hg2⟩
  have HI := Lib.hid hI
  have HG := Lib.hid (grownBy_own hg1 hg2)
  clear hI hb hg2 hr1
  go_wp2_with fail
  go_ret2
  exact ⟨n, xs, b, cb, rfl, n1, n4, x3, HI.out, HG.out⟩

theorem DrawFewestOf_any (a : Option Addr) (len cap : Nat) (zs : List Int) (w : World) (h : IsRow .u8 w a len cap zs) :
    Calls Try.prog 35 #[.slice a len cap] w (GPost w) := by
  go_enter Try.func35, Try.ntmps35
  go_wp2_with fail
  refine (open_draw a len cap zs _ h).mono ?_
  rintro e w1 ⟨rfl, hr1, hg1⟩
  clear h
  go_wp2_with fail
  refine (game_draw 9 _ _ _ hr1 (by omega) (by omega) (by omega)).mono ?_
  rintro e w2 ⟨n, xs, b, cb, rfl, n1, n4, x3, hI, hb, hr2, hg2⟩
  have HI := Lib.hid hI
  have HG := Lib.hid (grownBy_own hg1 hg2)
  clear hI hb hg2 hr1
  go_wp2_with fail
  go_ret2
  exact ⟨n, xs, b, cb, rfl, n1, n4, x3, HI.out, HG.out⟩

theorem DrawBestSet_any (a : Option Addr) (len cap : Nat) (zs : List Int) (w : World) (h : IsRow .u8 w a len cap zs) :
    Calls Try.prog 38 #[.slice a len cap] w (GPost w) := by
  go_enter Try.func38, Try.ntmps38
  go_wp2_with fail
  refine (open_draw a len cap zs _ h).mono ?_
  rintro e w1 ⟨rfl, hr1, hg1⟩
  clear h
  go_wp2_with fail
  refine (game_draw 9 _ _ _ hr1 (by omega) (by omega) (by omega)).mono ?_
  rintro e w2 ⟨n, xs, b, cb, rfl, n1, n4, x3, hI, hb, hr2, hg2⟩
  have HI := Lib.hid hI
  have HG := Lib.hid (grownBy_own hg1 hg2)
  clear hI hb hg2 hr1
  go_wp2_with fail
  go_ret2
  exact ⟨n, xs, b, cb, rfl, n1, n4, x3, HI.out, HG.out⟩

set_option maxHeartbeats 2000000 in
theorem DrawWeightOf_any (a : Option Addr) (len cap : Nat) (zs : List Int) (w : World) (h : IsRow .u8 w a len cap zs) :
    Calls Try.prog 29 #[.slice a len cap] w (GQPost w) := by
  go_enter Try.func29, Try.ntmps29
  go_wp2_with fail
  refine (open_draw a len cap zs _ h).mono ?_
  rintro e w1 ⟨rfl, hr1, hg1⟩
  clear h
  go_wp2_with fail
  refine (game_draw 12 _ _ _ hr1 (by omega) (by omega) (by omega)).mono ?_
  rintro e w2 ⟨n, xs, b, cb, rfl, n1, n4, x3, hI, hb, hr2, hg2⟩
  have HI := Lib.hid hI
  have HB := Lib.hid hb
  have HG := Lib.hid (grownBy_own hg1 hg2)
  clear hI hb hg2 hr1
  go_wp2_with fail
  refine (pick_any _ _ _ _ hr2 (by omega)).mono ?_
  rintro e w3 ⟨k, rfl, k0, k1, hr3, hg3⟩
  go_wp2_with fail
  refine (pick_any _ _ _ _ hr3 (by omega)).mono ?_
  rintro e w4 ⟨j, rfl, j0, j1, hr4, hg4⟩
  have hg34 := grownBy_trans hg3 hg4
  have HI4 := Lib.hid (HI.out.kept hg34 (fun x hx e => by have := HB.out x hx; have := Option.some.inj e; omega))
  have HG4 := Lib.hid (grownBy_own HG.out hg34)
  have hj : j / 19 = 0 ∨ j / 19 = 1 := by omega
  clear hg3 hg4 hg34 hr2 hr3
  go_wp2_with fail
  go_ret3
  exact ⟨n, xs, b, cb, _, rfl, n1, n4, x3, HI4.out, by omega, by omega, HG4.out⟩

set_option maxHeartbeats 2000000 in
theorem DrawEnoughOk_any (a : Option Addr) (len cap : Nat) (zs : List Int) (w : World) (h : IsRow .u8 w a len cap zs) :
    Calls Try.prog 32 #[.slice a len cap] w (GQPost w) := by
  go_enter Try.func32, Try.ntmps32
  go_wp2_with fail
  refine (open_draw a len cap zs _ h).mono ?_
  rintro e w1 ⟨rfl, hr1, hg1⟩
  clear h
  go_wp2_with fail
  refine (game_draw 12 _ _ _ hr1 (by omega) (by omega) (by omega)).mono ?_
  rintro e w2 ⟨n, xs, b, cb, rfl, n1, n4, x3, hI, hb, hr2, hg2⟩
  have HI := Lib.hid hI
  have HB := Lib.hid hb
  have HG := Lib.hid (grownBy_own hg1 hg2)
  clear hI hb hg2 hr1
  go_wp2_with fail
  refine (pick_any _ _ _ _ hr2 (by omega)).mono ?_
  rintro e w3 ⟨k, rfl, k0, k1, hr3, hg3⟩
  go_wp2_with fail
  refine (pick_any _ _ _ _ hr3 (by omega)).mono ?_
  rintro e w4 ⟨j, rfl, j0, j1, hr4, hg4⟩
  have hg34 := grownBy_trans hg3 hg4
  have HI4 := Lib.hid (HI.out.kept hg34 (fun x hx e => by have := HB.out x hx; have := Option.some.inj e; omega))
  have HG4 := Lib.hid (grownBy_own HG.out hg34)
  have hj : j / 19 = 0 ∨ j / 19 = 1 := by omega
  clear hg3 hg4 hg34 hr2 hr3
  go_wp2_with fail
  go_ret3
  exact ⟨n, xs, b, cb, _, rfl, n1, n4, x3, HI4.out, by omega, by omega, HG4.out⟩

end Go.Proofs.Ythfikgaghinfbaa
