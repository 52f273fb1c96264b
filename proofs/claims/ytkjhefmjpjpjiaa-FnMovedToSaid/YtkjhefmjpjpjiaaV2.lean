/-
  The draws of LowestOf and MovedTo, facts on lowest terms, and the walk of the law FnLowestOf.
-/
import Derived.Test.YtkjhefmjpjpjiaaV1
import Derived.Test.YtkjhefmjpjpjiaaMoved
namespace Go.Proofs.Ytkjhefmjpjpjiaa
open Go.RowKit

theorem DrawLowestOf_any (a : Option Addr) (len cap : Nat) (zs : List Int) (w : World) (h : IsRow .u8 w a len cap zs) :
    Calls Try.prog 14 #[.slice a len cap] w (Draw2Post (-1) 7 (-16) 1016 w) := by
  go_enter Try.func14, Try.ntmps14
  go_wp2_with fail
  refine (open_draw a len cap zs _ h).mono ?_
  rintro e w1 ⟨rfl, hr1, hg1⟩
  clear h
  go_wp2_with fail
  refine (steps_draw _ _ _ _ hr1 (by omega) (by omega) (by omega)).mono ?_
  rintro e w2 ⟨n, rfl, hn1, hn2, hr2, hg2⟩
  go_wp2_with fail
  refine (value_draw _ _ _ _ hr2 (by omega) (by omega) (by omega)).mono ?_
  rintro e w3 ⟨v, rfl, hv1, hv2, hr3, hg3⟩
  go_wp2_with fail
  go_ret2
  exact ⟨n, v, rfl, hn1, hn2, by omega, by omega, grownBy_own (grownBy_own hg1 hg2) hg3⟩

def Draw3Post (w : World) (e : Ending) (w' : World) : Prop :=
  ∃ n v m : Int, e = .returned (.tuple #[.int .i64 n, .int .i64 v, .int .i64 m]) ∧ -1 ≤ n ∧ n ≤ 7 ∧ -16 ≤ v ∧ v ≤ 1016 ∧ -1 ≤ m ∧ m ≤ 7 ∧ w.grownBy w' none

theorem DrawMovedTo_any (a : Option Addr) (len cap : Nat) (zs : List Int) (w : World) (h : IsRow .u8 w a len cap zs) :
    Calls Try.prog 19 #[.slice a len cap] w (Draw3Post w) := by
  go_enter Try.func19, Try.ntmps19
  go_wp2_with fail
  refine (open_draw a len cap zs _ h).mono ?_
  rintro e w1 ⟨rfl, hr1, hg1⟩
  clear h
  go_wp2_with fail
  refine (steps_draw _ _ _ _ hr1 (by omega) (by omega) (by omega)).mono ?_
  rintro e w2 ⟨n, rfl, hn1, hn2, hr2, hg2⟩
  go_wp2_with fail
  refine (value_draw _ _ _ _ hr2 (by omega) (by omega) (by omega)).mono ?_
  rintro e w3 ⟨v, rfl, hv1, hv2, hr3, hg3⟩
  go_wp2_with fail
  refine (steps_draw _ _ _ _ hr3 (by omega) (by omega) (by omega)).mono ?_
  rintro e w4 ⟨m, rfl, hm1, hm2, hr4, hg4⟩
  go_wp2_with fail
  go_ret3
  exact ⟨n, v, m, rfl, hn1, hn2, by omega, by omega, hm1, hm2, grownBy_own (grownBy_own (grownBy_own hg1 hg2) hg3) hg4⟩

def lowTest (n v : Int) : Bool := !vokB n v || (sameB n v (lowW n v) (lowP n v) && (n % lowW n v == 0) && decide (1 ≤ lowW n v) && decide (lowW n v ≤ 6) && allUpTo (fun k => !(decide (1 ≤ k) && decide ((k : Int) < lowW n v)) || !mvB n v k) 6)
theorem low_table : allUpTo (fun n => allUpTo (fun v => lowTest n v) 6) 6 = true := by decide +kernel

theorem low_facts {n v : Int} (h : vokB n v = true) : sameB n v (lowW n v) (lowP n v) = true ∧ (n % lowW n v == 0) = true ∧ 1 ≤ lowW n v ∧ lowW n v ≤ 6 ∧ ∀ k : Nat, 1 ≤ k → (k : Int) < lowW n v → mvB n v k = false := by
  have hv := vokB_of h
  obtain ⟨N, rfl⟩ := Int.eq_ofNat_of_zero_le (show 0 ≤ n by omega)
  obtain ⟨V, rfl⟩ := Int.eq_ofNat_of_zero_le (show 0 ≤ v by omega)
  have t := allUpTo_of (allUpTo_of low_table N (by omega)) V (by omega)
  simp only [lowTest, h, Bool.not_true, Bool.false_or, Bool.and_eq_true, decide_eq_true_eq] at t
  obtain ⟨⟨⟨⟨t1, t2⟩, t3⟩, t4⟩, t5⟩ := t
  refine ⟨t1, t2, t3, t4, fun k hk1 hk2 => ?_⟩
  have u := allUpTo_of t5 k (by omega)
  simpa [hk1, hk2] using u

theorem low_no {n v : Int} (h : vokB n v = false) : lowW n v = -1 ∧ lowP n v = -1 := by unfold lowW lowP; simp [h]

def LowRel (w : World) (m : Int) (i : Value) (wr : World) : Prop := ∃ k : Nat, 1 ≤ k ∧ (k : Int) ≤ m ∧ i = .int .i64 k ∧ w.grownBy wr none

theorem FnLowestOf_walk (a0 : Option Addr) (len0 cap0 : Nat) (z0 : List Int) (w : World) (w0 : IsRow .u8 w a0 len0 cap0 z0) :
    Calls Try.prog 4 #[.slice a0 len0 cap0] w fun e w' => e = .returned (.bool true) ∧ Below w.heap.size w w' := by
  by_cases hl : (1048576 : Int) < (len0 : Int)
  · clear w0
    go_enter Try.func4, Try.ntmps4
    go_wp2_with fail
    go_ret
    exact ⟨rfl, Below.refl _ _⟩
  · go_enter Try.func4, Try.ntmps4
    go_wp2_with fail
    refine (DrawLowestOf_any _ _ _ _ _ w0).mono ?_
    rintro e w1 ⟨n, v, rfl, hn1, hn2, hv1, hv2, hg⟩
    clear w0
    cases e1 : vokB n v
    · obtain ⟨r1, r2⟩ := low_no e1
      go_wp2_with fail
      refine (low_any _ _ _).mono ?_
      rintro e w2 ⟨rfl, hg2⟩
      go_wp2_with fail
      refine (slow_any _ _ _).mono ?_
      rintro e w3 ⟨rfl, hg3⟩
      go_wp2_with (go_at_call 13; refine (alive_any _).mono ?_; rintro e w' ⟨rfl, rfl⟩)
      go_ret
      exact ⟨rfl, below_of (grownBy_trans (grownBy_trans hg hg2) hg3)⟩
    · obtain ⟨f1, f2, f3, f4, f5⟩ := low_facts e1
      have F5 := Lib.hid f5
      clear f5
      have kk := vokB_of e1
      go_wp2_with fail
      refine (low_any _ _ _).mono ?_
      rintro e w2 ⟨rfl, hg2⟩
      go_wp2_with fail
      refine (slow_any _ _ _).mono ?_
      rintro e w3 ⟨rfl, hg3⟩
      have hgg := grownBy_trans (grownBy_trans hg hg2) hg3
      clear hg hg2 hg3
      go_wp2_with fail
      go_loopw [11, 12, 13] (fun i _ _ wr => LowRel w (lowW n v) i wr) (fun i _ _ _ => (lowW n v - intOf i).toNat)
      case atStart => exact ⟨1, Nat.le_refl _, f3, rfl, hgg⟩
      case round =>
        obtain ⟨k, hk1, hk2, rfl, hgr⟩ := hrel
        by_cases hlt : (k : Int) < lowW n v
        · have hm := F5.out k hk1 hlt
          go_wp2_with (go_at_call 17; refine (moved_any _ _ _ _).mono ?_; rintro e w4 ⟨rfl, hg4⟩)
          go_roundw
          case rel => exact ⟨k + 1, by omega, by omega, by go_num, grownBy_trans hgr hg4⟩
          case measure => simp [intOf]; omega
        · go_wp2_with (go_at_call 18; refine (same_any _ _ _ _ _).mono ?_; rintro e w4 ⟨rfl, rfl⟩)
          go_ret
          exact ⟨rfl, below_of hgr⟩

end Go.Proofs.Ytkjhefmjpjpjiaa
