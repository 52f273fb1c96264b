/-
  The walks of the laws of PlusOf and TimesOf.
-/
import Derived.Test.YtacbofmpbeoaiaaSFacts
import Derived.Test.YtacbofmpbeoaiaaSDraw
namespace Go.Proofs.Ytacbofmpbeoaiaa
open Go.RowKit

def UpRel (w : World) (m : Int) (i : Value) (wr : World) : Prop := ∃ k : Nat, (k : Int) ≤ m + 1 ∧ i = .int .i64 k ∧ w.grownBy wr none

theorem FnPlusOf_walk (a0 : Option Addr) (len0 cap0 : Nat) (z0 : List Int) (w : World) (w0 : IsRow .u8 w a0 len0 cap0 z0) :
    Calls Try.prog 5 #[.slice a0 len0 cap0] w fun e w' => e = .returned (.bool true) ∧ Below w.heap.size w w' := by
  by_cases hl : (1048576 : Int) < (len0 : Int)
  · clear w0
    go_enter Try.func5, Try.ntmps5
    go_wp2_with fail
    go_ret
    exact ⟨rfl, Below.refl _ _⟩
  · go_enter Try.func5, Try.ntmps5
    go_wp2_with fail
    refine (DrawPlusOf_any _ _ _ _ _ w0).mono ?_
    rintro e w1 ⟨n, a, b, rfl, hn1, hn2, ha1, ha2, hb1, hb2, hg⟩
    clear w0
    cases h : twoB n a b
    · have r := plusW_f h
      go_wp2_with (first | (go_at_call 25; refine (plus_any _ _ _ _).mono ?_; rintro e w' ⟨rfl, hg'⟩; replace hg := grownBy_trans hg hg') | (go_at_call 27; refine (splus_any _ _ _ _).mono ?_; rintro e w' ⟨rfl, rfl⟩) | (go_at_call 20; refine (alive_any _).mono ?_; rintro e w' ⟨rfl, rfl⟩))
      go_ret
      exact ⟨rfl, below_of hg⟩
    · obtain ⟨f1, f2, f3, f4, f5⟩ := plus_facts h
      obtain ⟨_, _, k⟩ := twoB_of h
      have H := Lib.hid h
      clear h
      go_wp2_with (first | (go_at_call 25; refine (plus_any _ _ _ _).mono ?_; rintro e w' ⟨rfl, hg'⟩; replace hg := grownBy_trans hg hg') | (go_at_call 27; refine (splus_any _ _ _ _).mono ?_; rintro e w' ⟨rfl, rfl⟩))
      go_loopw [7] (fun i wr => UpRel w n i wr) (fun i _ => (n + 1 - intOf i).toNat)
      case atStart => exact ⟨0, by omega, rfl, hg⟩
      case round =>
        obtain ⟨c, hc, rfl, hgr⟩ := hrel
        by_cases hlt : (c : Int) ≤ n
        · have hA := plus_assoc H.out ⟨Int.natCast_nonneg c, hlt⟩
          go_wp2_with (first | (go_at_call 25; refine (plus_any _ _ _ _).mono ?_; rintro e w' ⟨rfl, hg'⟩; replace hgr := grownBy_trans hgr hg'))
          go_roundw
          case rel => exact ⟨c + 1, by omega, by go_num, hgr⟩
          case measure => simp [intOf]; omega
        · clear hg
          have hg := hgr
          go_wp2_with (first | (go_at_call 25; refine (plus_any _ _ _ _).mono ?_; rintro e w' ⟨rfl, hg'⟩; replace hg := grownBy_trans hg hg') | (go_at_call 28; refine (great_any _ _ _ _).mono ?_; rintro e w' ⟨rfl, hg'⟩; replace hg := grownBy_trans hg hg') | (go_at_call 18; refine (not_any _ _ _).mono ?_; rintro e w' ⟨rfl, rfl⟩))
          go_ret
          exact ⟨rfl, below_of hg⟩

theorem FnTimesOf_walk (a0 : Option Addr) (len0 cap0 : Nat) (z0 : List Int) (w : World) (w0 : IsRow .u8 w a0 len0 cap0 z0) :
    Calls Try.prog 6 #[.slice a0 len0 cap0] w fun e w' => e = .returned (.bool true) ∧ Below w.heap.size w w' := by
  by_cases hl : (1048576 : Int) < (len0 : Int)
  · clear w0
    go_enter Try.func6, Try.ntmps6
    go_wp2_with fail
    go_ret
    exact ⟨rfl, Below.refl _ _⟩
  · go_enter Try.func6, Try.ntmps6
    go_wp2_with fail
    refine (DrawTimesOf_any _ _ _ _ _ w0).mono ?_
    rintro e w1 ⟨n, a, b, rfl, hn1, hn2, ha1, ha2, hb1, hb2, hg⟩
    clear w0
    cases h : twoB n a b
    · have r := timesW_f h
      go_wp2_with (first | (go_at_call 30; refine (times_any _ _ _ _).mono ?_; rintro e w' ⟨rfl, hg'⟩; replace hg := grownBy_trans hg hg') | (go_at_call 31; refine (stimes_any _ _ _ _).mono ?_; rintro e w' ⟨rfl, rfl⟩) | (go_at_call 20; refine (alive_any _).mono ?_; rintro e w' ⟨rfl, rfl⟩))
      go_ret
      exact ⟨rfl, below_of hg⟩
    · obtain ⟨f1, f2⟩ := times_facts h
      obtain ⟨_, _, k⟩ := twoB_of h
      have H := Lib.hid h
      clear h
      go_wp2_with (first | (go_at_call 30; refine (times_any _ _ _ _).mono ?_; rintro e w' ⟨rfl, hg'⟩; replace hg := grownBy_trans hg hg') | (go_at_call 31; refine (stimes_any _ _ _ _).mono ?_; rintro e w' ⟨rfl, rfl⟩))
      go_loopw [7] (fun i wr => UpRel w n i wr) (fun i _ => (n + 1 - intOf i).toNat)
      case atStart => exact ⟨0, by omega, rfl, hg⟩
      case round =>
        obtain ⟨c, hc, rfl, hgr⟩ := hrel
        by_cases hlt : (c : Int) ≤ n
        · have hA := times_fol H.out ⟨Int.natCast_nonneg c, hlt⟩
          by_cases hxc : timesW n a b ≤ c
          · have hB := hA.2 hxc
            clear hA
            have g1 : decide (timesW n a b ≤ (c : Int)) = true := by simpa using hxc
            have g2 : decide (a ≤ folW n b (c : Int)) = true := by simpa using hB
            go_wp2_with (first | (go_at_call 21; refine (fol_any _ _ _ _).mono ?_; rintro e w' ⟨rfl, hg'⟩; replace hgr := grownBy_trans hgr hg'))
            go_roundw
            case rel => exact ⟨c + 1, by omega, by go_num, hgr⟩
            case measure => simp [intOf]; omega
          · have hB : ¬ a ≤ folW n b c := fun hh => hxc (hA.1 hh)
            clear hA
            have g1 : decide (timesW n a b ≤ (c : Int)) = false := by simpa using hxc
            have g2 : decide (a ≤ folW n b (c : Int)) = false := by simpa using hB
            go_wp2_with (first | (go_at_call 21; refine (fol_any _ _ _ _).mono ?_; rintro e w' ⟨rfl, hg'⟩; replace hgr := grownBy_trans hgr hg'))
            go_roundw
            case rel => exact ⟨c + 1, by omega, by go_num, hgr⟩
            case measure => simp [intOf]; omega
        · clear hg
          have hg := hgr
          go_wp2_with (first | (go_at_call 25; refine (plus_any _ _ _ _).mono ?_; rintro e w' ⟨rfl, hg'⟩; replace hg := grownBy_trans hg hg') | (go_at_call 18; refine (not_any _ _ _).mono ?_; rintro e w' ⟨rfl, rfl⟩))
          go_ret
          exact ⟨rfl, below_of hg⟩

end Go.Proofs.Ytacbofmpbeoaiaa
