/-
  What MovedTo answers, and the contract of the model's MovedTo. No condition.
-/
import Derived.Test.YtkjhefmjpjpjiaaDoorFracs
namespace Go.Proofs.YtkjhefmjpjpjiaaDoor
open Go.RowKit

def mvO (n v m : Int) : Option Nat := if vokB n v && inB m 1 6 then mvN n.toNat v.toNat m.toNat else none
def mvI (n v m : Int) : Int := match mvO n v m with | some x => (x : Int) | none => -1
def mvB (n v m : Int) : Bool := (mvO n v m).isSome

def MvPost (n v m : Int) (w : World) (e : Ending) (w' : World) : Prop :=
  e = .returned (.tuple #[.int .i64 (mvI n v m), .bool (mvB n v m)]) ∧ w.grownBy w' none

theorem mv_none {n v m : Int} (h : mvO n v m = none) : Ending.returned (.tuple #[.int .i64 (-1), .bool false]) = .returned (.tuple #[.int .i64 (mvI n v m), .bool (mvB n v m)]) := by
  unfold mvI mvB; rw [h]; rfl
theorem mv_some {n v m : Int} {x : Nat} {a : Int} (h : mvO n v m = some x) (ha : a = (x : Int)) : Ending.returned (.tuple #[.int .i64 a, .bool true]) = .returned (.tuple #[.int .i64 (mvI n v m), .bool (mvB n v m)]) := by
  unfold mvI mvB; rw [h, ha]; rfl

theorem mul_le (a b : Int) (ha : 0 ≤ a ∧ a ≤ 6) (hb : 0 ≤ b ∧ b ≤ 6) : 0 ≤ a * b ∧ a * b ≤ 36 := by
  constructor
  · exact Int.mul_nonneg ha.1 hb.1
  · have h := Int.mul_le_mul ha.2 hb.2 hb.1 (show (0 : Int) ≤ 6 by omega)
    omega

theorem smoved_any (n v m : Int) (w : World) :
    Calls Tryd.prog 23 #[.int .i64 n, .int .i64 v, .int .i64 m] w (MvPost n v m w) := by
  cases e1 : vokB n v
  · have hm : Hid (mvO n v m = none) := by unfold Hid mvO; simp [e1]
    go_enter Tryd.func23, Tryd.ntmps23
    go_wp2_with (go_at_call 11; refine (svok_any _ _ _).mono ?_; rintro e w' ⟨rfl, rfl⟩)
    go_ret2
    exact ⟨mv_none hm.out, grownBy_refl _ _⟩
  · cases e2 : inB m 1 6
    · have hm : Hid (mvO n v m = none) := by unfold Hid mvO; simp [e2]
      go_enter Tryd.func23, Tryd.ntmps23
      go_wp2_with (first | (go_at_call 11; refine (svok_any _ _ _).mono ?_; rintro e w' ⟨rfl, rfl⟩) | (go_at_call 25; refine (in_any _ _ _ _).mono ?_; rintro e w' ⟨rfl, rfl⟩))
      go_ret2
      exact ⟨mv_none hm.out, grownBy_refl _ _⟩
    · have k1 := vokB_of e1
      have k2 := inB_of e2
      have hmo : mvO n v m = mvN n.toNat v.toNat m.toNat := by unfold mvO; rw [e1, e2]; rfl
      have b1 := mul_le v m (by omega) (by omega)
      obtain ⟨N, rfl⟩ := Int.eq_ofNat_of_zero_le (show 0 ≤ n by omega)
      obtain ⟨V, rfl⟩ := Int.eq_ofNat_of_zero_le (show 0 ≤ v by omega)
      obtain ⟨M, rfl⟩ := Int.eq_ofNat_of_zero_le (show 0 ≤ m by omega)
      simp only [Int.toNat_natCast, mvN] at hmo
      by_cases h0 : V * M % N = 0
      · rw [if_pos h0] at hmo
        have Hm := Lib.hid hmo
        clear hmo
        have hz : ((V : Int) * (M : Int) % (N : Int) != 0) = false := by rw [← Int.natCast_mul, ← Int.natCast_emod, h0]; rfl
        have hq : Hid ((V : Int) * (M : Int) / (N : Int) = ((V * M / N : Nat) : Int)) := by unfold Hid; simp
        have q1 : 0 ≤ (V : Int) * (M : Int) / (N : Int) := Int.ediv_nonneg (by omega) (by omega)
        have q2 : (V : Int) * (M : Int) / (N : Int) ≤ (V : Int) * (M : Int) := Int.ediv_le_self _ (by omega)
        clear h0
        go_enter Tryd.func23, Tryd.ntmps23
        go_wp2_with (first | (go_at_call 11; refine (svok_any _ _ _).mono ?_; rintro e w' ⟨rfl, rfl⟩) | (go_at_call 25; refine (in_any _ _ _ _).mono ?_; rintro e w' ⟨rfl, rfl⟩))
        go_ret2
        exact ⟨mv_some Hm.out hq.out, grownBy_refl _ _⟩
      · rw [if_neg h0] at hmo
        have Hm := Lib.hid hmo
        clear hmo
        have hz : ((V : Int) * (M : Int) % (N : Int) != 0) = true := by
          rw [← Int.natCast_mul, ← Int.natCast_emod]
          simp only [bne_iff_ne, ne_eq]
          omega
        clear h0
        go_enter Tryd.func23, Tryd.ntmps23
        go_wp2_with (first | (go_at_call 11; refine (svok_any _ _ _).mono ?_; rintro e w' ⟨rfl, rfl⟩) | (go_at_call 25; refine (in_any _ _ _ _).mono ?_; rintro e w' ⟨rfl, rfl⟩))
        go_ret2
        exact ⟨mv_none Hm.out, grownBy_refl _ _⟩

end Go.Proofs.YtkjhefmjpjpjiaaDoor
