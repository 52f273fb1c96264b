/-
  Facts on moved values, and the walk of the law FnMovedTo.
-/
import Derived.Test.YtkjhefmjpjpjiaaV2
namespace Go.Proofs.Ytkjhefmjpjpjiaa
open Go.RowKit

def allN (n m : Int) : Nat → Bool
  | 0 => true
  | k + 1 => allN n m k && mvB n k m

def mvTest (n m v : Int) : Bool :=
  !(decide (1 ≤ n) && decide (1 ≤ m)) || ((allN n m (n.toNat + 1) == (m % n == 0)) && (!mvB n v m || (mvB m (mvI n v m) n && (mvI m (mvI n v m) n == v) && sameB n v m (mvI n v m))))
theorem mv_table : allUpTo (fun n => allUpTo (fun m => allUpTo (fun v => mvTest n m v) 6) 6) 6 = true := by decide +kernel

theorem mvB_vok {n v m : Int} (h : mvB n v m = true) : vokB n v = true ∧ inB m 1 6 = true := by
  unfold mvB mvO at h
  by_cases hc : (vokB n v && inB m 1 6) = true
  · simpa using hc
  · rw [if_neg hc] at h; simp at h
theorem mvI_no {n v m : Int} (h : mvB n v m = false) : mvI n v m = -1 := by
  unfold mvB at h
  unfold mvI
  cases hm : mvO n v m with
  | none => rfl
  | some x => rw [hm] at h; simp at h

theorem mv_all {n m : Int} (h1 : 1 ≤ n ∧ n ≤ 6) (h2 : 1 ≤ m ∧ m ≤ 6) : allN n m (n.toNat + 1) = (m % n == 0) := by
  obtain ⟨N, rfl⟩ := Int.eq_ofNat_of_zero_le (show 0 ≤ n by omega)
  obtain ⟨M, rfl⟩ := Int.eq_ofNat_of_zero_le (show 0 ≤ m by omega)
  have t := allUpTo_of (allUpTo_of (allUpTo_of mv_table N (by omega)) M (by omega)) 0 (by omega)
  have a1 : decide ((1 : Int) ≤ (N : Int)) = true := by simp; omega
  have a2 : decide ((1 : Int) ≤ (M : Int)) = true := by simp; omega
  simp only [mvTest, a1, a2, Bool.and_true, Bool.not_true, Bool.false_or, Bool.and_eq_true, beq_iff_eq] at t
  exact t.1

theorem mv_back {n v m : Int} (h : mvB n v m = true) : mvB m (mvI n v m) n = true ∧ mvI m (mvI n v m) n = v ∧ sameB n v m (mvI n v m) = true := by
  obtain ⟨hv, hm⟩ := mvB_vok h
  have k1 := vokB_of hv
  have k2 := inB_of hm
  obtain ⟨N, rfl⟩ := Int.eq_ofNat_of_zero_le (show 0 ≤ n by omega)
  obtain ⟨M, rfl⟩ := Int.eq_ofNat_of_zero_le (show 0 ≤ m by omega)
  obtain ⟨V, rfl⟩ := Int.eq_ofNat_of_zero_le (show 0 ≤ v by omega)
  have t := allUpTo_of (allUpTo_of (allUpTo_of mv_table N (by omega)) M (by omega)) V (by omega)
  have a1 : decide ((1 : Int) ≤ (N : Int)) = true := by simp; omega
  have a2 : decide ((1 : Int) ≤ (M : Int)) = true := by simp; omega
  simp only [mvTest, a1, a2, h, Bool.and_true, Bool.not_true, Bool.false_or, Bool.and_eq_true, beq_iff_eq] at t
  exact ⟨t.2.1.1, t.2.1.2, t.2.2⟩

def AllRel (w : World) (n m : Int) (b i : Value) (wr : World) : Prop := ∃ k : Nat, (k : Int) ≤ n + 1 ∧ i = .int .i64 k ∧ b = .bool (allN n m k) ∧ w.grownBy wr none

theorem FnMovedTo_walk (a0 : Option Addr) (len0 cap0 : Nat) (z0 : List Int) (w : World) (w0 : IsRow .u8 w a0 len0 cap0 z0) :
    Calls Try.prog 5 #[.slice a0 len0 cap0] w fun e w' => e = .returned (.bool true) ∧ Below w.heap.size w w' := by
  by_cases hl : (1048576 : Int) < (len0 : Int)
  · clear w0
    go_enter Try.func5, Try.ntmps5
    go_wp2_with fail
    go_ret
    exact ⟨rfl, Below.refl _ _⟩
  · go_enter Try.func5, Try.ntmps5
    go_wp2_with fail
    refine (DrawMovedTo_any _ _ _ _ _ w0).mono ?_
    rintro e w1 ⟨n, v, m, rfl, hn1, hn2, hv1, hv2, hm1, hm2, hg⟩
    clear w0
    go_wp2_with fail
    refine (moved_any _ _ _ _).mono ?_
    rintro e w2 ⟨rfl, hg2⟩
    go_wp2_with fail
    refine (smoved_any _ _ _ _).mono ?_
    rintro e w3 ⟨rfl, hg3⟩
    have hgg := grownBy_trans (grownBy_trans hg hg2) hg3
    clear hg hg2 hg3
    by_cases hin : (1 ≤ n ∧ n ≤ 6) ∧ (1 ≤ m ∧ m ≤ 6)
    · obtain ⟨h1, h2⟩ := hin
      have hA := Lib.hid (mv_all h1 h2)
      go_wp2_with fail
      go_loopw [10, 11, 12, 13] (fun b i _ _ wr => AllRel w n m b i wr) (fun _ i _ _ _ => (n + 1 - intOf i).toNat)
      case atStart => exact ⟨0, by omega, rfl, rfl, hgg⟩
      case round =>
        obtain ⟨k, hk, rfl, rfl, hgr⟩ := hrel
        by_cases hlt : (k : Int) ≤ n
        · cases ha : allN n m k
          · have hs : Hid (allN n m (k + 1) = false) := by unfold Hid; rw [allN, ha]; rfl
            go_wp2_with (go_at_call 17; refine (moved_any _ _ _ _).mono ?_; rintro e w4 ⟨rfl, hg4⟩)
            go_roundw
            case rel => exact ⟨k + 1, by omega, by go_num, by rw [hs.out], grownBy_trans hgr hg4⟩
            case measure => simp [intOf]; omega
          · have hs : Hid (allN n m (k + 1) = mvB n k m) := by unfold Hid; rw [allN, ha]; rfl
            go_wp2_with (go_at_call 17; refine (moved_any _ _ _ _).mono ?_; rintro e w4 ⟨rfl, hg4⟩)
            go_roundw
            case rel => exact ⟨k + 1, by omega, by go_num, by rw [hs.out], grownBy_trans hgr hg4⟩
            case measure => simp [intOf]; omega
        · obtain rfl : k = n.toNat + 1 := by omega
          have hr0 : 0 ≤ m % n := Int.emod_nonneg _ (by omega)
          cases hb : mvB n v m
          · have hi := mvI_no hb
            cases hz : (m % n == 0)
            · have hA2 : allN n m (n.toNat + 1) = false := hA.out.trans hz
              go_wp2_with fail
              go_ret
              exact ⟨rfl, below_of hgr⟩
            · have hA2 : allN n m (n.toNat + 1) = true := hA.out.trans hz
              go_wp2_with fail
              go_ret
              exact ⟨rfl, below_of hgr⟩
          · obtain ⟨b1, b2, b3⟩ := mv_back hb
            cases hz : (m % n == 0)
            · have hA2 : allN n m (n.toNat + 1) = false := hA.out.trans hz
              go_wp2_with (first | (go_at_call 18; refine (same_any _ _ _ _ _).mono ?_; rintro e w5 ⟨rfl, rfl⟩) | (go_at_call 17; refine (moved_any _ _ _ _).mono ?_; rintro e w4 ⟨rfl, hg4⟩))
              go_ret
              exact ⟨rfl, below_of (grownBy_trans hgr hg4)⟩
            · have hA2 : allN n m (n.toNat + 1) = true := hA.out.trans hz
              go_wp2_with (first | (go_at_call 18; refine (same_any _ _ _ _ _).mono ?_; rintro e w5 ⟨rfl, rfl⟩) | (go_at_call 17; refine (moved_any _ _ _ _).mono ?_; rintro e w4 ⟨rfl, hg4⟩))
              go_ret
              exact ⟨rfl, below_of (grownBy_trans hgr hg4)⟩
    · have hb : mvB n v m = false := by
        cases h : mvB n v m
        · rfl
        · obtain ⟨x, y⟩ := mvB_vok h
          have := vokB_of x
          have := inB_of y
          omega
      have hi := mvI_no hb
      by_cases c1 : n < 1
      · go_wp2_with (go_at_call 13; refine (alive_any _).mono ?_; rintro e w' ⟨rfl, rfl⟩)
        go_ret
        exact ⟨rfl, below_of hgg⟩
      · by_cases c2 : 6 < n
        · go_wp2_with (go_at_call 13; refine (alive_any _).mono ?_; rintro e w' ⟨rfl, rfl⟩)
          go_ret
          exact ⟨rfl, below_of hgg⟩
        · by_cases c3 : m < 1
          · go_wp2_with (go_at_call 13; refine (alive_any _).mono ?_; rintro e w' ⟨rfl, rfl⟩)
            go_ret
            exact ⟨rfl, below_of hgg⟩
          · have c4 : 6 < m := by omega
            go_wp2_with (go_at_call 13; refine (alive_any _).mono ?_; rintro e w' ⟨rfl, rfl⟩)
            go_ret
            exact ⟨rfl, below_of hgg⟩

end Go.Proofs.Ytkjhefmjpjpjiaa
