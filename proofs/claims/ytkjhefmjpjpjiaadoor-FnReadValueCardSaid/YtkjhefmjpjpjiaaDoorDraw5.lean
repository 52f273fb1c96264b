/-
  The contracts of DrawValueText, DrawSameOk and DrawReadValue.
-/
import Derived.Test.YtkjhefmjpjpjiaaDoorDraw4
import Derived.Test.YtkjhefmjpjpjiaaDoorSMoved
import Derived.Test.YtkjhefmjpjpjiaaDoorVText
import Derived.Deep.RegionWith
namespace Go.Proofs.YtkjhefmjpjpjiaaDoor
open Go.RowKit

theorem DrawValueText_any (a : Option Addr) (len cap : Nat) (zs : List Int) (w : World) (h : IsRow .u8 w a len cap zs) :
    Calls Tryd.prog 14 #[.slice a len cap] w (Draw2Post (-1) 7 (-16) 1016 w) := by
  go_enter Tryd.func14, Tryd.ntmps14
  go_wp2_with fail
  refine (DrawLowestOf_any a len cap zs _ h).mono ?_
  rintro e w1 ⟨n, v, rfl, h1, h2, h3, h4, hg⟩
  clear h
  go_wp2_with fail
  go_ret2
  exact ⟨n, v, rfl, h1, h2, h3, h4, hg⟩

def Draw4Post (w : World) (e : Ending) (w' : World) : Prop :=
  ∃ n v m u : Int, e = .returned (.tuple #[.int .i64 n, .int .i64 v, .int .i64 m, .int .i64 u]) ∧ w.grownBy w' none

theorem grownBy_up {a b c : World} {r : Nat} (h : a.grownBy b (some r)) (k : b.grownBy c none) : a.grownBy c (some r) :=
  ⟨k.os.trans h.os, k.tape.trans h.tape, k.output.trans h.output, Nat.le_trans h.size k.size, fun i hi hne => (k.block i (Nat.lt_of_lt_of_le hi h.size) (by simp)).trans (h.block i hi hne)⟩

theorem DrawSameOk_any (a : Option Addr) (len cap : Nat) (zs : List Int) (w : World) (h : IsRow .u8 w a len cap zs) :
    Calls Tryd.prog 8 #[.slice a len cap] w (Draw4Post w) := by
  go_enter Tryd.func8, Tryd.ntmps8
  go_wp2_with fail
  refine (open_draw a len cap zs _ h).mono ?_
  rintro e w1 ⟨rfl, hr1, hg1⟩
  clear h
  go_wp2_with fail
  refine (steps_draw _ _ _ _ hr1 (by omega) (by omega) (by omega)).mono ?_
  rintro e w2 ⟨n, rfl, hn1, hn2, hr2, hg2⟩
  go_wp2_with fail
  refine (value_draw _ _ _ _ hr2 (by omega) (by omega) (by omega)).mono ?_
  rintro e w3 ⟨v, rfl, hv1, hv2, hr3, hg3⟩
  go_wp2_with fail
  refine (steps_draw _ _ _ _ hr3 (by omega) (by omega) (by omega)).mono ?_
  rintro e w4 ⟨m, rfl, hm1, hm2, hr4, hg4⟩
  go_wp2_with fail
  refine (smoved_any _ _ _ _).mono ?_
  rintro e w5 ⟨rfl, hg5⟩
  have hr5 := hr4.grown hg5
  have hgg := grownBy_own (grownBy_own (grownBy_own hg1 hg2) hg3) (grownBy_up hg4 hg5)
  clear hg1 hg2 hg3 hg4 hg5
  cases hb : mvB n v m
  · go_wp2_with fail
    refine (value_draw _ _ _ _ hr5 (by omega) (by omega) (by omega)).mono ?_
    rintro e w6 ⟨u, rfl, hu1, hu2, hr6, hg6⟩
    go_wp2_with fail
    refine bodyPost_ret (v := .tuple #[.int .i64 n, .int .i64 v, .int .i64 m, .int .i64 u]) (by simp [results, Tryd.results8, go_sem]) rfl ⟨n, v, m, u, rfl, grownBy_own hgg hg6⟩
  · go_wp2_with fail
    refine (pick_any _ _ _ _ hr5 (by omega)).mono ?_
    rintro e w6 ⟨k, rfl, hk0, hk1, hr6, hg6⟩
    by_cases h0 : k = 0
    · subst h0
      go_wp2_with fail
      refine bodyPost_ret (v := .tuple #[.int .i64 n, .int .i64 v, .int .i64 m, .int .i64 (mvI n v m)]) (by simp [results, Tryd.results8, go_sem]) rfl ⟨n, v, m, _, rfl, grownBy_own hgg hg6⟩
    · have hb0 : (k == 0) = false := by simpa using h0
      go_wp2_with fail
      refine (value_draw _ _ _ _ hr6 (by omega) (by omega) (by omega)).mono ?_
      rintro e w7 ⟨u, rfl, hu1, hu2, hr7, hg7⟩
      go_wp2_with fail
      refine bodyPost_ret (v := .tuple #[.int .i64 n, .int .i64 v, .int .i64 m, .int .i64 u]) (by simp [results, Tryd.results8, go_sem]) rfl ⟨n, v, m, u, rfl, grownBy_own (grownBy_own hgg hg6) hg7⟩

end Go.Proofs.YtkjhefmjpjpjiaaDoor
