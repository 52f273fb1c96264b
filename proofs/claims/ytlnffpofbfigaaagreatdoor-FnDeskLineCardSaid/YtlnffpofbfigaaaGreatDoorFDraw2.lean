/-
  The draws of chapter 4: some text of at most 60 bytes, some chain, some values.
-/
import Derived.Test.YtlnffpofbfigaaaGreatDoorFDraw
namespace Go.Proofs.YtlnffpofbfigaaaGreatDoor
open Go.RowKit

theorem fo_any {D : Int} (h : D = 1 ∨ D = 2 ∨ D = 3) : FoOk D 29 36 := by
  have f1 : FoOk 1 5 6 := fo_step (D := 1) (L := 1) (K := 1) (by omega) (by omega) (by omega) (by omega) (by omega) fo_zero
  have f2 : FoOk 2 13 16 := fo_step (D := 2) (L := 5) (K := 6) (by omega) (by omega) (by omega) (by omega) (by omega) f1
  have f3 : FoOk 3 29 36 := fo_step (D := 3) (L := 13) (K := 16) (by omega) (by omega) (by omega) (by omega) (by omega) f2
  rcases h with rfl | rfl | rfl
  · intro w r P hr hP; exact (f1 w r P hr (by omega)).mono fun e w' hp => hp.up (by omega) (by omega)
  · intro w r P hr hP; exact (f2 w r P hr (by omega)).mono fun e w' hp => hp.up (by omega) (by omega)
  · exact f3

def FmPost (r P : Nat) (w : World) (e : Ending) (w' : World) : Prop :=
  ∃ s : ByteArray, e = .returned (.string s) ∧ s.size ≤ 60 ∧ Rd w' r (P + 40) ∧ w.grownBy w' (some r)

set_option maxHeartbeats 4000000 in
theorem formed_draw (n : Int) (w : World) (r P : Nat) (hr : Rd w r P) (hP : P ≤ 80000) (hn : 1 ≤ n) (hn2 : n ≤ 1000) :
    Calls Tryz.prog 108 #[.pointer (some ⟨r, 0, none⟩), .int .i64 n] w (FmPost r P w) := by
  have hm : maxLen = 9223372036854775807 := rfl
  go_enter Tryz.func108, Tryz.ntmps108
  go_wp2_with fail
  refine (pick_any _ _ _ _ hr (by omega)).mono ?_
  rintro e w1 ⟨k, rfl, hk0, hk1, hr1, hg1⟩
  go_wp2_with fail
  refine (fo_any (D := 1 + k) (by omega) _ _ _ hr1 (by omega)).mono ?_
  rintro e w2 ⟨s, rfl, hs1, hs2, hr2, hg2⟩
  have hgg := grownBy_trans hg1 hg2
  clear hg1 hg2 hr1
  go_wp2_with fail
  refine (odd_any _ _ _ _ hr2 (by omega) hn hn2).mono ?_
  rintro e w3 ⟨b, rfl, hr3, hg3⟩
  replace hgg := grownBy_trans hgg hg3
  clear hg3 hr2
  cases b
  · go_wp2_with fail
    go_ret
    exact ⟨s, rfl, by omega, hr3.mono (by omega), hgg⟩
  · go_wp2_with fail
    refine (pick_any _ _ _ _ hr3 (by omega)).mono ?_
    rintro e w4 ⟨j, rfl, hj0, hj1, hr4, hg4⟩
    obtain ⟨j, rfl⟩ := Int.eq_ofNat_of_zero_le hj0
    have hjs : j + 1 ≤ s.size := by omega
    have hwr : IntKind.i64.wrap ((j : Int) + 1) = (j : Int) + 1 := IntWalk.i64_in _ (by omega)
    have hw0 : (0 : Int) ≤ (j : Int) + 1 := by omega
    have hw1 : ((j : Int) + 1).toNat = j + 1 := by omega
    have hw2 : (j : Int) + 1 ≤ (s.size : Int) := by omega
    have hw3 : (j : Int) ≤ (s.size : Int) := by omega
    have hlt4 := hr4.lt
    replace hgg := grownBy_trans hgg hg4
    clear hg4 hr3 hj0 hj1 hk0 hk1
    go_wp2_with fail
    go_region_with (go_at_call 41; refine (pick_any _ _ _ _ (by first | exact hr4.drewn | exact (hr4.alloc _).drewn) (by omega)).mono ?_; rintro e wb ⟨kp, rfl, hkp, hlp, hrp, hgp⟩; obtain ⟨kp, rfl⟩ := Int.eq_ofNat_of_zero_le hkp; obtain ⟨u, hC, hu⟩ := lit5 kp (by omega); have hltp : (kp : Int) < 5 := (by omega); have hmp := @cell_made wb _ 9 kp _ hC; first | have hx := cell_kept (grownBy_undrew hgp) hlt4 hC | skip)
    all_goals
      go_wp2_with fail
      go_ret
      refine ⟨_, rfl, ?_, ?_, ?_⟩
      · simp only [ByteArray.size_append, ByteArray.size_extract]; omega
      · first | exact hrp.mono (by omega) | exact (hrp.alloc _).mono (by omega)
      · first
        | exact grownBy_trans hgg (grownBy_trans (World.grownBy_alloc _ _ _) (grownBy_undrew hgp))
        | exact grownBy_trans hgg (grownBy_trans (grownBy_undrew hgp) (World.grownBy_alloc _ _ _))

def StrPost4 (w : World) (e : Ending) (w' : World) : Prop :=
  ∃ s : ByteArray, e = .returned (.string s) ∧ s.size ≤ 60 ∧ w.grownBy w' none

def AtPost (w : World) (e : Ending) (w' : World) : Prop :=
  ∃ (n : Int) (s : ByteArray) (a b c : Int), e = .returned (.tuple #[.int .i64 n, .string s, .int .i64 a, .int .i64 b, .int .i64 c]) ∧ s.size ≤ 60 ∧ -1 ≤ n ∧ n ≤ 7 ∧ -16 ≤ a ∧ a ≤ 1016 ∧ -16 ≤ b ∧ b ≤ 1016 ∧ -16 ≤ c ∧ c ≤ 1016 ∧ w.grownBy w' none

end Go.Proofs.YtlnffpofbfigaaaGreatDoor
