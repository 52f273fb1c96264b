/-
  Contracts of LowestOf, both. No condition.
-/
import Derived.Test.YtkjhefmjpjpjiaaDoorGcd
namespace Go.Proofs.YtkjhefmjpjpjiaaDoor
open Go.RowKit

def lowW (n v : Int) : Int := if vokB n v then fracW n v else -1
def lowP (n v : Int) : Int := if vokB n v then fracP n v else -1

def LowPost (n v : Int) (w : World) (e : Ending) (w' : World) : Prop :=
  e = .returned (.tuple #[.int .i64 (lowW n v), .int .i64 (lowP n v), .bool (vokB n v)]) ∧ w.grownBy w' none

theorem ret_low {n v a b : Int} {c : Bool} (h1 : a = lowW n v) (h2 : b = lowP n v) (h3 : c = vokB n v) :
    Ending.returned (.tuple #[.int .i64 a, .int .i64 b, .bool c]) = .returned (.tuple #[.int .i64 (lowW n v), .int .i64 (lowP n v), .bool (vokB n v)]) := by rw [h1, h2, h3]

theorem low_any (n v : Int) (w : World) :
    Calls Tryd.prog 26 #[.int .i64 n, .int .i64 v] w (LowPost n v w) := by
  cases e1 : vokB n v
  · have r1 : Hid (-1 = lowW n v) := by unfold Hid lowW; simp [e1]
    have r2 : Hid (-1 = lowP n v) := by unfold Hid lowP; simp [e1]
    have r3 : Hid (vokB n v = false) := e1
    go_enter Tryd.func26, Tryd.ntmps26
    go_wp2_with (go_at_call 16; refine (vok_any _ _ _).mono ?_; rintro e w' ⟨rfl, rfl⟩)
    go_ret3
    exact ⟨ret_low r1.out r2.out r3.out.symm, grownBy_refl _ _⟩
  · have r1 : Hid (fracW n v = lowW n v) := by unfold Hid lowW; simp [e1]
    have r2 : Hid (fracP n v = lowP n v) := by unfold Hid lowP; simp [e1]
    have r3 : Hid (vokB n v = true) := e1
    have k := vokB_of e1
    go_enter Tryd.func26, Tryd.ntmps26
    go_wp2_with (first | (go_at_call 16; refine (vok_any _ _ _).mono ?_; rintro e w' ⟨rfl, rfl⟩) | (go_at_call 33; refine (fraction_any n v (by omega) (by omega) _).mono ?_; rintro e w1 ⟨rfl, hg⟩))
    go_quiet (fail)
    go_wp2
    go_ret3
    exact ⟨ret_low r1.out r2.out r3.out.symm, grownBy_drewN (grownBy_trans hg (World.grownBy_alloc _ _ _)) _⟩

theorem slow_any (n v : Int) (w : World) :
    Calls Tryd.prog 29 #[.int .i64 n, .int .i64 v] w (LowPost n v w) := by
  cases e1 : vokB n v
  · have r1 : Hid (-1 = lowW n v) := by unfold Hid lowW; simp [e1]
    have r2 : Hid (-1 = lowP n v) := by unfold Hid lowP; simp [e1]
    have r3 : Hid (vokB n v = false) := e1
    go_enter Tryd.func29, Tryd.ntmps29
    go_wp2_with (go_at_call 11; refine (svok_any _ _ _).mono ?_; rintro e w' ⟨rfl, rfl⟩)
    go_ret3
    exact ⟨ret_low r1.out r2.out r3.out.symm, grownBy_refl _ _⟩
  · have k := vokB_of e1
    have r1 : Hid (fracW n v = lowW n v) := by unfold Hid lowW; simp [e1]
    have r2 : Hid (fracP n v = lowP n v) := by unfold Hid lowP; simp [e1]
    have r3 : Hid (vokB n v = true) := e1
    obtain ⟨N, rfl⟩ := Int.eq_ofNat_of_zero_le (show 0 ≤ n by omega)
    obtain ⟨V, rfl⟩ := Int.eq_ofNat_of_zero_le (show 0 ≤ v by omega)
    have g1 : 1 ≤ Nat.gcd V N := Nat.gcd_pos_of_pos_right _ (by omega)
    have g2 : Nat.gcd V N ≤ N := Nat.gcd_le_right _ (by omega)
    obtain ⟨g, hg⟩ : ∃ g, g = Nat.gcd V N := ⟨_, rfl⟩
    have Hg := Lib.hid hg
    have s1 : Hid ((N : Int) / (g : Int) = fracW N V) := by rw [hg]; unfold Hid fracW; simp
    have s2 : Hid ((V : Int) / (g : Int) = fracP N V) := by rw [hg]; unfold Hid fracP; simp
    rw [← hg] at g1 g2
    clear hg
    have q1 : 0 ≤ (V : Int) / (g : Int) := Int.ediv_nonneg (by omega) (by omega)
    have q2 : (V : Int) / (g : Int) ≤ (V : Int) := Int.ediv_le_self _ (by omega)
    have q3 : 0 ≤ (N : Int) / (g : Int) := Int.ediv_nonneg (by omega) (by omega)
    have q4 : (N : Int) / (g : Int) ≤ (N : Int) := Int.ediv_le_self _ (by omega)
    go_enter Tryd.func29, Tryd.ntmps29
    go_wp2_with (first | (go_at_call 11; refine (svok_any _ _ _).mono ?_; rintro e w' ⟨rfl, rfl⟩) | (go_at_call 35; refine (common_any V N (by omega) (by omega) _).mono ?_; rintro e w1 ⟨rfl, rfl⟩; simp only [Int.toNat_natCast]; rw [← Hg.out]))
    go_quiet (fail)
    go_wp2
    go_ret3
    exact ⟨ret_low (s1.out.trans r1.out) (s2.out.trans r2.out) r3.out.symm, grownBy_drewN (grownBy_refl _ _) _⟩

end Go.Proofs.YtkjhefmjpjpjiaaDoor
