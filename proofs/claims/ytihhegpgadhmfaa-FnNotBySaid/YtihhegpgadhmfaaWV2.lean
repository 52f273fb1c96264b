/-
  The walks of the laws of FollowsBy and NotBy.
-/
import Derived.Test.YtihhegpgadhmfaaWV1
namespace Go.Proofs.Ytihhegpgadhmfaa
open Go.RowKit

theorem fbW_facts {k n a b : Int} (h : wayB k n a b = true) :
    0 ≤ fbW k n a b ∧ fbW k n a b ≤ n ∧ (a ≤ b → (fbW k n a b == n) = true) ∧ (¬ a ≤ b → (fbW k n a b == n) = false) ∧ (k = 0 → (fbW k n a b == folW n a b) = true) := by
  have o := fbV_ok h
  have e := fbW_t h
  have t := fb_top h
  rw [e]
  refine ⟨o.1, o.2, fun q => by simpa using t.2 q, fun q => ?_, fun q => ?_⟩
  · have : ¬ fbV k n a b = n := fun x => q (t.1 x)
    simpa using this
  · subst q
    rw [fb_lack h]
    simp
theorem fbW_third {k n a b c : Int} (h : wayB k n a b = true) (hc : 0 ≤ c ∧ c ≤ n) : togW k n a c ≤ b ↔ c ≤ fbW k n a b := by
  obtain ⟨_, _, hk, k1⟩ := wayB_of h
  rw [fbW_t h, togW_t (wayB_t (k := k) (n := n) (a := a) (b := c) (by omega) (by omega))]
  exact tog_fb h hc
theorem notW_facts {k n a : Int} (h : wayB k n a 0 = true) :
    0 ≤ fbW k n a 0 ∧ (fbW k n (fbW k n (fbW k n a 0) 0) 0 == fbW k n a 0) = true ∧ a ≤ fbW k n (fbW k n a 0) 0 ∧ (k = 0 → (fbW k n a 0 == notW n a) = true) ∧ (k = 1 → 0 < a → (fbW k n a 0 == 0) = true) ∧ (k = 1 → ¬ 0 < a → (fbW k n a 0 == 0) = false) := by
  obtain ⟨_, _, hk, k1⟩ := wayB_of h
  have o := fbV_ok h
  have h2 : wayB k n (fbV k n a 0) 0 = true := wayB_t (by omega) (by omega)
  have o2 := fbV_ok h2
  have h3 : wayB k n (fbV k n (fbV k n a 0) 0) 0 = true := wayB_t (by omega) (by omega)
  obtain ⟨g1, g2, g3, g4⟩ := not_ways h
  rw [fbW_t h, fbW_t h2, fbW_t h3, g1]
  refine ⟨o.1, by simp, g2, fun q => ?_, fun q r => ?_, fun q r => ?_⟩
  · rw [g3 q]; simp
  · have := (g4 q).2 r
    simpa using this
  · have : ¬ fbV k n a 0 = 0 := fun x => r ((g4 q).1 x)
    simpa using this

set_option maxHeartbeats 1600000 in
theorem FnFollowsBy_walk (a0 : Option Addr) (len0 cap0 : Nat) (z0 : List Int) (w : World) (w0 : IsRow .u8 w a0 len0 cap0 z0) :
    Calls Try.prog 4 #[.slice a0 len0 cap0] w fun e w' => e = .returned (.bool true) ∧ Below w.heap.size w w' := by
  by_cases hl : (1048576 : Int) < (len0 : Int)
  · clear w0
    go_enter Try.func4, Try.ntmps4
    go_wp2_with fail
    go_ret
    exact ⟨rfl, Below.refl _ _⟩
  · go_enter Try.func4, Try.ntmps4
    go_wp2_with fail
    refine (DrawFollowsBy_any _ _ _ _ _ w0).mono ?_
    rintro e w1 ⟨k, n, a, b, rfl, hn1, hn2, hg⟩
    clear w0
    cases h : wayB k n a b
    · have r := fbW_f h
      go_wp2_with (first | (go_at_call 18; refine (fb_any _ _ _ _ _).mono ?_; rintro e w' ⟨rfl, hg'⟩; replace hg := grownBy_trans hg hg') | (go_at_call 19; refine (sfb_any _ _ _ _ _).mono ?_; rintro e w' ⟨rfl, rfl⟩) | (go_at_call 16; refine (alive_any _).mono ?_; rintro e w' ⟨rfl, rfl⟩))
      go_ret
      exact ⟨rfl, below_of hg⟩
    · obtain ⟨f1, f2, f3, f4, f5⟩ := fbW_facts h
      obtain ⟨_, _, _, k1⟩ := wayB_of h
      have F3 := Lib.hid f3
      have F4 := Lib.hid f4
      have F5 := Lib.hid f5
      clear f3 f4 f5
      go_wp2_with (first | (go_at_call 18; refine (fb_any _ _ _ _ _).mono ?_; rintro e w' ⟨rfl, hg'⟩; replace hg := grownBy_trans hg hg') | (go_at_call 19; refine (sfb_any _ _ _ _ _).mono ?_; rintro e w' ⟨rfl, rfl⟩) | (go_at_call 16; refine (alive_any _).mono ?_; rintro e w' ⟨rfl, rfl⟩))
      go_loopw [8] (fun i wr => CRel n w i wr) (fun i _ => (n + 1 - intOf i).toNat)
      case atStart => exact ⟨0, by omega, by omega, rfl, hg⟩
      case round =>
        obtain ⟨c, hc1, hc2, rfl, hgr⟩ := hrel
        by_cases hcn : c ≤ n
        · have g1 := fbW_third h (c := c) ⟨hc1, hcn⟩
          by_cases hbc : c ≤ fbW k n a b
          · have g2 : decide (togW k n a c ≤ b) = true := by simpa using g1.2 hbc
            have g3 : decide (c ≤ fbW k n a b) = true := by simpa using hbc
            clear g1
            go_wp2_with (go_at_call 14; refine (together_any _ _ _ _ _).mono ?_; rintro e w' ⟨rfl, hg'⟩; replace hgr := grownBy_trans hgr hg')
            go_roundw
            case rel => exact ⟨c + 1, by omega, by omega, rfl, hgr⟩
            case measure => simp [intOf]; omega
          · have g2 : decide (togW k n a c ≤ b) = false := by simpa using fun q => hbc (g1.1 q)
            have g3 : decide (c ≤ fbW k n a b) = false := by simpa using hbc
            clear g1
            go_wp2_with (go_at_call 14; refine (together_any _ _ _ _ _).mono ?_; rintro e w' ⟨rfl, hg'⟩; replace hgr := grownBy_trans hgr hg')
            go_roundw
            case rel => exact ⟨c + 1, by omega, by omega, rfl, hgr⟩
            case measure => simp [intOf]; omega
        · by_cases hab : a ≤ b <;> by_cases hk0 : k = 0
          · have g1 := F3.out hab
            have g2 : decide (a ≤ b) = true := by simpa using hab
            have g3 := F5.out hk0
            have g4 : (k != 0) = false := by simpa using hk0
            clear hk0
            go_wp2_with (go_at_call 20; refine (fol_any _ _ _ _).mono ?_; rintro e w' ⟨rfl, hg'⟩; replace hgr := grownBy_trans hgr hg')
            go_ret
            exact ⟨rfl, below_of hgr⟩
          · have g1 := F3.out hab
            have g2 : decide (a ≤ b) = true := by simpa using hab
            have g4 : (k != 0) = true := by simpa using hk0
            clear hk0
            go_wp2_with (go_at_call 20; refine (fol_any _ _ _ _).mono ?_; rintro e w' ⟨rfl, hg'⟩; replace hgr := grownBy_trans hgr hg')
            go_ret
            exact ⟨rfl, below_of hgr⟩
          · have g1 := F4.out (by omega)
            have g2 : decide (a ≤ b) = false := by simpa using hab
            have g3 := F5.out hk0
            have g4 : (k != 0) = false := by simpa using hk0
            clear hk0
            go_wp2_with (go_at_call 20; refine (fol_any _ _ _ _).mono ?_; rintro e w' ⟨rfl, hg'⟩; replace hgr := grownBy_trans hgr hg')
            go_ret
            exact ⟨rfl, below_of hgr⟩
          · have g1 := F4.out (by omega)
            have g2 : decide (a ≤ b) = false := by simpa using hab
            have g4 : (k != 0) = true := by simpa using hk0
            clear hk0
            go_wp2_with (go_at_call 20; refine (fol_any _ _ _ _).mono ?_; rintro e w' ⟨rfl, hg'⟩; replace hgr := grownBy_trans hgr hg')
            go_ret
            exact ⟨rfl, below_of hgr⟩

set_option maxHeartbeats 1600000 in
theorem FnNotBy_walk (a0 : Option Addr) (len0 cap0 : Nat) (z0 : List Int) (w : World) (w0 : IsRow .u8 w a0 len0 cap0 z0) :
    Calls Try.prog 5 #[.slice a0 len0 cap0] w fun e w' => e = .returned (.bool true) ∧ Below w.heap.size w w' := by
  by_cases hl : (1048576 : Int) < (len0 : Int)
  · clear w0
    go_enter Try.func5, Try.ntmps5
    go_wp2_with fail
    go_ret
    exact ⟨rfl, Below.refl _ _⟩
  · go_enter Try.func5, Try.ntmps5
    go_wp2_with fail
    refine (DrawNotBy_any _ _ _ _ _ w0).mono ?_
    rintro e w1 ⟨k, n, a, rfl, hn1, hn2, hg⟩
    clear w0
    cases h : wayB k n a 0
    · have r := fbW_f h
      go_wp2_with (first | (go_at_call 22; refine (notby_any _ _ _ _).mono ?_; rintro e w' ⟨rfl, hg'⟩; replace hg := grownBy_trans hg hg') | (go_at_call 23; refine (snotby_any _ _ _ _).mono ?_; rintro e w' ⟨rfl, rfl⟩) | (go_at_call 16; refine (alive_any _).mono ?_; rintro e w' ⟨rfl, rfl⟩) | (go_at_call 24; refine (not_any _ _ _).mono ?_; rintro e w' ⟨rfl, rfl⟩))
      go_ret
      exact ⟨rfl, below_of hg⟩
    · obtain ⟨f1, f2, f3, f4, f5, f6⟩ := notW_facts h
      obtain ⟨_, _, hk, k1⟩ := wayB_of h
      have G3 : decide (a ≤ fbW k n (fbW k n a 0) 0) = true := by simpa using f3
      rcases hk with hk | hk | hk
      · have g1 := f4 hk
        have g2 : (k != 0) = false := by simpa using hk
        have g3 : (k != 1) = true := by rw [hk]; rfl
        clear f4 f5 f6 hk
        go_wp2_with (first | (go_at_call 22; refine (notby_any _ _ _ _).mono ?_; rintro e w' ⟨rfl, hg'⟩; replace hg := grownBy_trans hg hg') | (go_at_call 23; refine (snotby_any _ _ _ _).mono ?_; rintro e w' ⟨rfl, rfl⟩) | (go_at_call 16; refine (alive_any _).mono ?_; rintro e w' ⟨rfl, rfl⟩) | (go_at_call 24; refine (not_any _ _ _).mono ?_; rintro e w' ⟨rfl, rfl⟩))
        go_ret
        exact ⟨rfl, below_of hg⟩
      · have g2 : (k != 0) = true := by rw [hk]; rfl
        have g3 : (k != 1) = false := by rw [hk]; rfl
        by_cases ha : 0 < a
        · have g1 := f5 hk ha
          have g4 : decide (0 < a) = true := by simpa using ha
          clear f4 f5 f6 hk
          go_wp2_with (first | (go_at_call 22; refine (notby_any _ _ _ _).mono ?_; rintro e w' ⟨rfl, hg'⟩; replace hg := grownBy_trans hg hg') | (go_at_call 23; refine (snotby_any _ _ _ _).mono ?_; rintro e w' ⟨rfl, rfl⟩) | (go_at_call 16; refine (alive_any _).mono ?_; rintro e w' ⟨rfl, rfl⟩) | (go_at_call 24; refine (not_any _ _ _).mono ?_; rintro e w' ⟨rfl, rfl⟩))
          go_ret
          exact ⟨rfl, below_of hg⟩
        · have g1 := f6 hk ha
          have g4 : decide (0 < a) = false := by simpa using ha
          clear f4 f5 f6 hk
          go_wp2_with (first | (go_at_call 22; refine (notby_any _ _ _ _).mono ?_; rintro e w' ⟨rfl, hg'⟩; replace hg := grownBy_trans hg hg') | (go_at_call 23; refine (snotby_any _ _ _ _).mono ?_; rintro e w' ⟨rfl, rfl⟩) | (go_at_call 16; refine (alive_any _).mono ?_; rintro e w' ⟨rfl, rfl⟩) | (go_at_call 24; refine (not_any _ _ _).mono ?_; rintro e w' ⟨rfl, rfl⟩))
          go_ret
          exact ⟨rfl, below_of hg⟩
      · have g2 : (k != 0) = true := by rw [hk]; rfl
        have g3 : (k != 1) = true := by rw [hk]; rfl
        clear f4 f5 f6 hk
        go_wp2_with (first | (go_at_call 22; refine (notby_any _ _ _ _).mono ?_; rintro e w' ⟨rfl, hg'⟩; replace hg := grownBy_trans hg hg') | (go_at_call 23; refine (snotby_any _ _ _ _).mono ?_; rintro e w' ⟨rfl, rfl⟩) | (go_at_call 16; refine (alive_any _).mono ?_; rintro e w' ⟨rfl, rfl⟩) | (go_at_call 24; refine (not_any _ _ _).mono ?_; rintro e w' ⟨rfl, rfl⟩))
        go_ret
        exact ⟨rfl, below_of hg⟩

end Go.Proofs.Ytihhegpgadhmfaa
