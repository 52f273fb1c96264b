/-
  Contracts of SameOk, both. No condition.
-/
import Derived.Test.YtkjhefmjpjpjiaaDoorBase
namespace Go.Proofs.YtkjhefmjpjpjiaaDoor
open Go.RowKit

def sameB (n v m u : Int) : Bool := vokB n v && vokB m u && v * m == u * n

theorem mul_small {a b : Int} (ha : 0 ≤ a ∧ a ≤ 6) (hb : 0 ≤ b ∧ b ≤ 6) : 0 ≤ a * b ∧ a * b ≤ 36 := by
  constructor
  · exact Int.mul_nonneg ha.1 hb.1
  · calc a * b ≤ 6 * b := Int.mul_le_mul_of_nonneg_right ha.2 hb.1
      _ ≤ 36 := by omega

theorem same_any (n v m u : Int) (w : World) :
    Calls Tryd.prog 9 #[.int .i64 n, .int .i64 v, .int .i64 m, .int .i64 u] w fun e w' => e = .returned (.bool (sameB n v m u)) ∧ w = w' := by
  cases e1 : vokB n v
  · have hs : sameB n v m u = false := by simp [sameB, e1]
    rw [hs]
    go_enter Tryd.func9, Tryd.ntmps9
    go_wp2_with (go_at_call 16; refine (vok_any _ _ _).mono ?_; rintro e w' ⟨rfl, rfl⟩)
    go_ret
    exact ⟨rfl, rfl⟩
  · cases e2 : vokB m u
    · have hs : sameB n v m u = false := by simp [sameB, e2]
      rw [hs]
      go_enter Tryd.func9, Tryd.ntmps9
      go_wp2_with (go_at_call 16; refine (vok_any _ _ _).mono ?_; rintro e w' ⟨rfl, rfl⟩)
      go_ret
      exact ⟨rfl, rfl⟩
    · have hs : sameB n v m u = (v * m == u * n) := by simp [sameB, e1, e2]
      have k1 := vokB_of e1
      have k2 := vokB_of e2
      have b1 := mul_small (a := v) (b := m) (by omega) (by omega)
      have b2 := mul_small (a := u) (b := n) (by omega) (by omega)
      rw [hs]
      clear hs
      go_enter Tryd.func9, Tryd.ntmps9
      go_wp2_with (go_at_call 16; refine (vok_any _ _ _).mono ?_; rintro e w' ⟨rfl, rfl⟩)
      go_ret
      exact ⟨rfl, rfl⟩

theorem ssame_any (n v m u : Int) (w : World) :
    Calls Tryd.prog 10 #[.int .i64 n, .int .i64 v, .int .i64 m, .int .i64 u] w fun e w' => e = .returned (.bool (sameB n v m u)) ∧ w = w' := by
  cases e1 : vokB n v
  · have hs : sameB n v m u = false := by simp [sameB, e1]
    rw [hs]
    go_enter Tryd.func10, Tryd.ntmps10
    go_wp2_with (go_at_call 11; refine (svok_any _ _ _).mono ?_; rintro e w' ⟨rfl, rfl⟩)
    go_ret
    exact ⟨rfl, rfl⟩
  · cases e2 : vokB m u
    · have hs : sameB n v m u = false := by simp [sameB, e2]
      rw [hs]
      go_enter Tryd.func10, Tryd.ntmps10
      go_wp2_with (go_at_call 11; refine (svok_any _ _ _).mono ?_; rintro e w' ⟨rfl, rfl⟩)
      go_ret
      exact ⟨rfl, rfl⟩
    · have hs : sameB n v m u = (v * m == u * n) := by simp [sameB, e1, e2]
      have k1 := vokB_of e1
      have k2 := vokB_of e2
      have b1 := mul_small (a := v) (b := m) (by omega) (by omega)
      have b2 := mul_small (a := u) (b := n) (by omega) (by omega)
      rw [hs]
      clear hs
      go_enter Tryd.func10, Tryd.ntmps10
      go_wp2_with (go_at_call 11; refine (svok_any _ _ _).mono ?_; rintro e w' ⟨rfl, rfl⟩)
      go_ret
      exact ⟨rfl, rfl⟩

end Go.Proofs.YtkjhefmjpjpjiaaDoor
