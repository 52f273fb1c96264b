/-
  The walks of the laws of TogetherBy, FollowsBy, NotBy and DivisibleOk.
-/
import Derived.Test.YtihhegpgadhmfaaDivS
import Derived.Test.YtihhegpgadhmfaaWDraw
namespace Go.Proofs.Ytihhegpgadhmfaa
open Go.RowKit

theorem togW_facts {k n a b : Int} (h : wayB k n a b = true) :
    0 ≤ togW k n a b ∧ togW k n a b ≤ n ∧ (togW k n b a == togW k n a b) = true ∧ (togW k n a n == a) = true ∧ togW k n a b ≤ a ∧ togW k n a b ≤ b := by
  obtain ⟨_, _, hk, k1⟩ := wayB_of h
  have o := togV_ok h
  have e1 := togW_t h
  have e2 := togW_t (wayB_t (k := k) (n := n) (a := b) (b := a) (by omega) (by omega))
  have e3 := togW_t (wayB_t (k := k) (n := n) (a := a) (b := n) (by omega) (by omega))
  rw [e1, e2, e3, tog_comm h, tog_top h]
  exact ⟨o.1, o.2.1, by simp, by simp, o.2.2.1, o.2.2.2⟩
theorem togW_third {k n a b c : Int} (h : wayB k n a b = true) (hc : 0 ≤ c ∧ c ≤ n) :
    (togW k n (togW k n a b) c != togW k n a (togW k n b c)) = false ∧ (b ≤ c → togW k n a b ≤ togW k n a c) := by
  obtain ⟨_, _, hk, k1⟩ := wayB_of h
  have o := togV_ok h
  have e1 := togW_t h
  have hbc : wayB k n b c = true := wayB_t (by omega) (by omega)
  have o2 := togV_ok hbc
  have e2 := togW_t hbc
  have e3 := togW_t (wayB_t (k := k) (n := n) (a := togV k n a b) (b := c) (by omega) (by omega))
  have e4 := togW_t (wayB_t (k := k) (n := n) (a := a) (b := togV k n b c) (by omega) (by omega))
  have e5 := togW_t (wayB_t (k := k) (n := n) (a := a) (b := c) (by omega) (by omega))
  rw [e1, e2, e3, e4, e5, tog_assoc h hc]
  exact ⟨by simp, fun hb => tog_mono h hc hb⟩

def CRel (n : Int) (w : World) (i : Value) (wr : World) : Prop := ∃ c : Int, 0 ≤ c ∧ c ≤ n + 1 ∧ i = .int .i64 c ∧ w.grownBy wr none

set_option maxHeartbeats 1600000 in
theorem FnTogetherBy_walk (a0 : Option Addr) (len0 cap0 : Nat) (z0 : List Int) (w : World) (w0 : IsRow .u8 w a0 len0 cap0 z0) :
    Calls Try.prog 3 #[.slice a0 len0 cap0] w fun e w' => e = .returned (.bool true) ∧ Below w.heap.size w w' := by
  by_cases hl : (1048576 : Int) < (len0 : Int)
  · clear w0
    go_enter Try.func3, Try.ntmps3
    go_wp2_with fail
    go_ret
    exact ⟨rfl, Below.refl _ _⟩
  · go_enter Try.func3, Try.ntmps3
    go_wp2_with fail
    refine (DrawTogetherBy_any _ _ _ _ _ w0).mono ?_
    rintro e w1 ⟨k, n, a, b, rfl, hn1, hn2, hg⟩
    clear w0
    cases h : wayB k n a b
    · have r := togW_f h
      go_wp2_with (first | (go_at_call 14; refine (together_any _ _ _ _ _).mono ?_; rintro e w' ⟨rfl, hg'⟩; replace hg := grownBy_trans hg hg') | (go_at_call 15; refine (stog_any _ _ _ _ _).mono ?_; rintro e w' ⟨rfl, rfl⟩) | (go_at_call 16; refine (alive_any _).mono ?_; rintro e w' ⟨rfl, rfl⟩))
      go_ret
      exact ⟨rfl, below_of hg⟩
    · obtain ⟨f1, f2, f3, f4, f5, f6⟩ := togW_facts h
      obtain ⟨_, _, _, k1⟩ := wayB_of h
      have F3 := Lib.hid f3
      have F4 := Lib.hid f4
      clear f3 f4
      go_wp2_with (first | (go_at_call 14; refine (together_any _ _ _ _ _).mono ?_; rintro e w' ⟨rfl, hg'⟩; replace hg := grownBy_trans hg hg') | (go_at_call 15; refine (stog_any _ _ _ _ _).mono ?_; rintro e w' ⟨rfl, rfl⟩) | (go_at_call 16; refine (alive_any _).mono ?_; rintro e w' ⟨rfl, rfl⟩))
      go_loopw [8] (fun i wr => CRel n w i wr) (fun i _ => (n + 1 - intOf i).toNat)
      case atStart => exact ⟨0, by omega, by omega, rfl, hg⟩
      case round =>
        obtain ⟨c, hc1, hc2, rfl, hgr⟩ := hrel
        by_cases hcn : c ≤ n
        · obtain ⟨g1, g2⟩ := togW_third h (c := c) ⟨hc1, hcn⟩
          by_cases hbc : b ≤ c
          · have g3 := g2 hbc
            clear g2
            go_wp2_with (go_at_call 14; refine (together_any _ _ _ _ _).mono ?_; rintro e w' ⟨rfl, hg'⟩; replace hgr := grownBy_trans hgr hg')
            go_roundw
            case rel => exact ⟨c + 1, by omega, by omega, rfl, hgr⟩
            case measure => simp [intOf]; omega
          · clear g2
            go_wp2_with (go_at_call 14; refine (together_any _ _ _ _ _).mono ?_; rintro e w' ⟨rfl, hg'⟩; replace hgr := grownBy_trans hgr hg')
            go_roundw
            case rel => exact ⟨c + 1, by omega, by omega, rfl, hgr⟩
            case measure => simp [intOf]; omega
        · have f3 := F3.out
          have f4 := F4.out
          by_cases hab : a ≤ b
          · have g5 : decide (togW k n a b ≤ a) = true := by simpa using f5
            go_wp2_with (go_at_call 14; refine (together_any _ _ _ _ _).mono ?_; rintro e w' ⟨rfl, hg'⟩; replace hgr := grownBy_trans hgr hg')
            go_ret
            exact ⟨rfl, below_of hgr⟩
          · have g6 : decide (togW k n a b ≤ b) = true := by simpa using f6
            go_wp2_with (go_at_call 14; refine (together_any _ _ _ _ _).mono ?_; rintro e w' ⟨rfl, hg'⟩; replace hgr := grownBy_trans hgr hg')
            go_ret
            exact ⟨rfl, below_of hgr⟩

end Go.Proofs.Ytihhegpgadhmfaa
