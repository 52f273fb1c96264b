/-
  What the draws of chapter 6 answer.
-/
import Derived.Test.YtahlmdlnemmhpaaDoorZDraw
namespace Go.Proofs.YtahlmdlnemmhpaaDoor
open Go.RowKit

theorem madeI_bound (n s : Int) : -300 ≤ madeI n s ∧ madeI n s ≤ 600 := by
  unfold madeI
  cases ho : okS n s
  · exact ⟨by simp, by simp⟩
  · obtain ⟨N, S, rfl, rfl, h1, h6, hS⟩ := okS_of ho
    have p7 := pow_le7 h6
    have h := tab_of made_ok ⟨h1, h6⟩ hS
    simp only [Bool.and_eq_true, decide_eq_true_eq] at h
    have := h.1.2
    simp only [if_true, Int.toNat_natCast]
    omega

set_option maxHeartbeats 1000000 in
theorem DrawClosedOk_any (a : Option Addr) (len cap : Nat) (zs : List Int) (w : World) (h : IsRow .u8 w a len cap zs) :
    Calls Tryd.prog 12 #[.slice a len cap] w (Draw2Post (-1) 7 (-300) 600 w) := by
  go_enter Tryd.func12, Tryd.ntmps12
  go_wp2_with fail
  refine (open_draw a len cap zs _ h).mono ?_
  rintro e w1 ⟨rfl, hr1, hg1⟩
  clear h
  go_wp2_with fail
  refine (set_draw _ _ _ hr1 (by omega) _ (by decide) (by decide)).mono ?_
  rintro e w2 ⟨n, s, rfl, hn1, hn2, hs1, hs2, hr2, hg2⟩
  have hgg := grownBy_own hg1 hg2
  have cm := smade_any n s
  have hb := madeI_bound n s
  clear hg1 hg2 hr1
  generalize madeI n s = m at *
  by_cases h0 : 0 ≤ m
  · go_wp2_with fail
    refine (cm _).mono ?_
    rintro e w3 ⟨rfl, rfl⟩
    go_wp2_with fail
    refine (pick_any _ _ _ _ hr2 (by omega)).mono ?_
    rintro e w4 ⟨k, rfl, hk0, hk1, hr3, hg3⟩
    by_cases hk : k = 0
    · subst hk
      go_wp2_with fail
      refine (cm _).mono ?_
      rintro e w5 ⟨rfl, rfl⟩
      go_wp2_with fail
      go_ret2
      exact ⟨n, m, rfl, hn1, hn2, hb.1, hb.2, grownBy_own hgg hg3⟩
    · have hb0 : (k == 0) = false := beq_eq_false_iff_ne.2 hk
      go_wp2_with fail
      go_ret2
      exact ⟨n, s, rfl, hn1, hn2, hs1, hs2, grownBy_own hgg hg3⟩
  · go_wp2_with fail
    refine (cm _).mono ?_
    rintro e w3 ⟨rfl, rfl⟩
    go_wp2_with fail
    go_ret2
    exact ⟨n, s, rfl, hn1, hn2, hs1, hs2, hgg⟩

theorem DrawStepsFor_any (a : Option Addr) (len cap : Nat) (zs : List Int) (w : World) (h : IsRow .u8 w a len cap zs) :
    Calls Tryd.prog 34 #[.slice a len cap] w (Draw2Post (-1) 7 (-300) 600 w) := by
  go_enter Tryd.func34, Tryd.ntmps34
  go_wp2_with fail
  refine (DrawClosedOk_any a len cap zs _ h).mono ?_
  rintro e w1 ⟨n, s, rfl, h1, h2, h3, h4, hg⟩
  go_wp2_with fail
  go_ret2
  exact ⟨n, s, rfl, h1, h2, h3, h4, hg⟩

theorem DrawChainWithin_any (a : Option Addr) (len cap : Nat) (zs : List Int) (w : World) (h : IsRow .u8 w a len cap zs) :
    Calls Tryd.prog 27 #[.slice a len cap] w (Draw2Post (-1) 7 (-1) 7 w) := by
  go_enter Tryd.func27, Tryd.ntmps27
  go_wp2_with fail
  refine (open_draw a len cap zs _ h).mono ?_
  rintro e w1 ⟨rfl, hr1, hg1⟩
  clear h
  go_wp2_with fail
  refine (steps_draw _ _ _ _ hr1 (by omega) (by omega) (by omega)).mono ?_
  rintro e w2 ⟨n, rfl, h1, h2, hr2, hg2⟩
  go_wp2_with fail
  refine (steps_draw _ _ _ _ hr2 (by omega) (by omega) (by omega)).mono ?_
  rintro e w3 ⟨m, rfl, h3, h4, hr3, hg3⟩
  go_wp2_with fail
  go_ret2
  exact ⟨n, m, rfl, h1, h2, h3, h4, grownBy_own (grownBy_own hg1 hg2) hg3⟩

def OnePost (w : World) (e : Ending) (w' : World) : Prop := ∃ n : Int, e = .returned (.int .i64 n) ∧ -1 ≤ n ∧ n ≤ 7 ∧ w.grownBy w' none

theorem DrawClosedSets_any (a : Option Addr) (len cap : Nat) (zs : List Int) (w : World) (h : IsRow .u8 w a len cap zs) :
    Calls Tryd.prog 30 #[.slice a len cap] w (OnePost w) := by
  go_enter Tryd.func30, Tryd.ntmps30
  go_wp2_with fail
  refine (open_draw a len cap zs _ h).mono ?_
  rintro e w1 ⟨rfl, hr1, hg1⟩
  clear h
  go_wp2_with fail
  refine (steps_draw _ _ _ _ hr1 (by omega) (by omega) (by omega)).mono ?_
  rintro e w2 ⟨n, rfl, h1, h2, hr2, hg2⟩
  go_wp2_with fail
  go_ret
  exact ⟨n, rfl, h1, h2, grownBy_own hg1 hg2⟩

theorem pow_wrap {k : Int} (h0 : 0 ≤ k) (h1 : k ≤ 7) : -300 ≤ IntKind.i64.wrap (2 ^ k.toNat) ∧ IntKind.i64.wrap (2 ^ k.toNat) ≤ 600 := by
  obtain rfl | rfl | rfl | rfl | rfl | rfl | rfl | rfl : k = 0 ∨ k = 1 ∨ k = 2 ∨ k = 3 ∨ k = 4 ∨ k = 5 ∨ k = 6 ∨ k = 7 := by omega
  all_goals decide +kernel

set_option maxHeartbeats 4000000 in
theorem DrawMadeBy_any (a : Option Addr) (len cap : Nat) (zs : List Int) (w : World) (h : IsRow .u8 w a len cap zs) :
    Calls Tryd.prog 21 #[.slice a len cap] w (Draw2Post (-1) 7 (-300) 600 w) := by
  go_enter Tryd.func21, Tryd.ntmps21
  go_wp2_with fail
  refine (open_draw a len cap zs _ h).mono ?_
  rintro e w1 ⟨rfl, hr1, hg1⟩
  clear h
  go_wp2_with fail
  refine (set_draw _ _ _ hr1 (by omega) _ (by decide) (by decide)).mono ?_
  rintro e w2 ⟨n, s, rfl, hn1, hn2, hs1, hs2, hr2, hg2⟩
  go_wp2_with fail
  refine (pick_any _ _ _ _ hr2 (by omega)).mono ?_
  rintro e w3 ⟨k, rfl, hk0, hk1, hr3, hg3⟩
  have hgg := grownBy_own (grownBy_own hg1 hg2) hg3
  clear hg1 hg2 hg3 hr1 hr2
  by_cases hk : k = 0
  · subst hk
    have g1 : IntKind.i64.wrap 1 = 1 := by decide
    have g2 : IntKind.i64.wrap 2 = 2 := by decide
    have g3 : IntKind.i64.wrap 3 = 3 := by decide
    have g4 : IntKind.i64.wrap 4 = 4 := by decide
    have g5 : IntKind.i64.wrap 5 = 5 := by decide
    have g6 : IntKind.i64.wrap 6 = 6 := by decide
    have g7 : IntKind.i64.wrap 7 = 7 := by decide
    have g8 : IntKind.i64.wrap 8 = 8 := by decide
    obtain rfl | rfl | rfl | rfl | rfl | rfl | rfl | rfl | rfl : n = -1 ∨ n = 0 ∨ n = 1 ∨ n = 2 ∨ n = 3 ∨ n = 4 ∨ n = 5 ∨ n = 6 ∨ n = 7 := by omega
    all_goals
      go_wp2_with fail
      go_region_held3 (fun _ => True) (exact trivial) (first
        | (go_at_call 41; refine (pick_any _ _ _ _ hr3.drewZ (by omega)).mono ?_; rintro e wa ⟨k1, rfl, hk1, hl1, hra, hga⟩; have hq1 : ¬ (k1 < 0) := (by omega)))
      all_goals
        go_wp2_with fail
      all_goals
        go_ret2
        exact ⟨_, _, rfl, by omega, by omega, (pow_wrap hk1 (by omega)).1, (pow_wrap hk1 (by omega)).2, grownBy_own hgg (undrewZ hga)⟩
  · have hb0 : (k == 0) = false := beq_eq_false_iff_ne.2 hk
    go_wp2_with fail
    go_ret2
    exact ⟨n, s, rfl, hn1, hn2, hs1, hs2, hgg⟩

end Go.Proofs.YtahlmdlnemmhpaaDoor
