/-
  The walks of the exact laws of ValueOk, SameOk: by the contracts in Base. No condition.
-/
import Derived.Test.YtkjhefmjpjpjiaaBase
import Derived.RowKit3
namespace Go.Proofs.Ytkjhefmjpjpjiaa
open Go.RowKit

theorem FnExactValueOk_walk (a0 a1 : Int) (_w0 : (Lit.int .i64 a0).wf = true) (_w1 : (Lit.int .i64 a1).wf = true) (w : World) :
    Calls Try.prog 6 #[.int .i64 a0, .int .i64 a1] w fun e w' => e = .returned (.bool true) ∧ Grown w w' := by
  go_enter Try.func6, Try.ntmps6
  go_wp2_with (first | (go_at_call 11; refine (vok_any _ _ _).mono ?_; rintro e w' ⟨rfl, rfl⟩) | (go_at_call 12; refine (svok_any _ _ _).mono ?_; rintro e w' ⟨rfl, rfl⟩))
  go_ret
  exact ⟨rfl, Grown.refl _⟩

def sameB (n v m u : Int) : Bool := vokB n v && vokB m u && v * m == u * n

theorem mul_small {a b : Int} (ha : 0 ≤ a ∧ a ≤ 6) (hb : 0 ≤ b ∧ b ≤ 6) : 0 ≤ a * b ∧ a * b ≤ 36 := by
  constructor
  · exact Int.mul_nonneg ha.1 hb.1
  · calc a * b ≤ 6 * b := Int.mul_le_mul_of_nonneg_right ha.2 hb.1
      _ ≤ 36 := by omega

theorem same_any (n v m u : Int) (w : World) :
    Calls Try.prog 18 #[.int .i64 n, .int .i64 v, .int .i64 m, .int .i64 u] w fun e w' => e = .returned (.bool (sameB n v m u)) ∧ w = w' := by
  cases e1 : vokB n v
  · have hs : sameB n v m u = false := by simp [sameB, e1]
    rw [hs]
    go_enter Try.func18, Try.ntmps18
    go_wp2_with (go_at_call 11; refine (vok_any _ _ _).mono ?_; rintro e w' ⟨rfl, rfl⟩)
    go_ret
    exact ⟨rfl, rfl⟩
  · cases e2 : vokB m u
    · have hs : sameB n v m u = false := by simp [sameB, e2]
      rw [hs]
      go_enter Try.func18, Try.ntmps18
      go_wp2_with (go_at_call 11; refine (vok_any _ _ _).mono ?_; rintro e w' ⟨rfl, rfl⟩)
      go_ret
      exact ⟨rfl, rfl⟩
    · have hs : sameB n v m u = (v * m == u * n) := by simp [sameB, e1, e2]
      have k1 := vokB_of e1
      have k2 := vokB_of e2
      have b1 := mul_small (a := v) (b := m) (by omega) (by omega)
      have b2 := mul_small (a := u) (b := n) (by omega) (by omega)
      rw [hs]
      clear hs
      go_enter Try.func18, Try.ntmps18
      go_wp2_with (go_at_call 11; refine (vok_any _ _ _).mono ?_; rintro e w' ⟨rfl, rfl⟩)
      go_ret
      exact ⟨rfl, rfl⟩

theorem ssame_any (n v m u : Int) (w : World) :
    Calls Try.prog 21 #[.int .i64 n, .int .i64 v, .int .i64 m, .int .i64 u] w fun e w' => e = .returned (.bool (sameB n v m u)) ∧ w = w' := by
  cases e1 : vokB n v
  · have hs : sameB n v m u = false := by simp [sameB, e1]
    rw [hs]
    go_enter Try.func21, Try.ntmps21
    go_wp2_with (go_at_call 12; refine (svok_any _ _ _).mono ?_; rintro e w' ⟨rfl, rfl⟩)
    go_ret
    exact ⟨rfl, rfl⟩
  · cases e2 : vokB m u
    · have hs : sameB n v m u = false := by simp [sameB, e2]
      rw [hs]
      go_enter Try.func21, Try.ntmps21
      go_wp2_with (go_at_call 12; refine (svok_any _ _ _).mono ?_; rintro e w' ⟨rfl, rfl⟩)
      go_ret
      exact ⟨rfl, rfl⟩
    · have hs : sameB n v m u = (v * m == u * n) := by simp [sameB, e1, e2]
      have k1 := vokB_of e1
      have k2 := vokB_of e2
      have b1 := mul_small (a := v) (b := m) (by omega) (by omega)
      have b2 := mul_small (a := u) (b := n) (by omega) (by omega)
      rw [hs]
      clear hs
      go_enter Try.func21, Try.ntmps21
      go_wp2_with (go_at_call 12; refine (svok_any _ _ _).mono ?_; rintro e w' ⟨rfl, rfl⟩)
      go_ret
      exact ⟨rfl, rfl⟩

theorem FnExactSameOk_walk (a0 a1 a2 a3 : Int) (_w0 : (Lit.int .i64 a0).wf = true) (_w1 : (Lit.int .i64 a1).wf = true) (_w2 : (Lit.int .i64 a2).wf = true) (_w3 : (Lit.int .i64 a3).wf = true) (w : World) :
    Calls Try.prog 7 #[.int .i64 a0, .int .i64 a1, .int .i64 a2, .int .i64 a3] w fun e w' => e = .returned (.bool true) ∧ Grown w w' := by
  go_enter Try.func7, Try.ntmps7
  go_wp2_with (first | (go_at_call 18; refine (same_any _ _ _ _ _).mono ?_; rintro e w' ⟨rfl, rfl⟩) | (go_at_call 21; refine (ssame_any _ _ _ _ _).mono ?_; rintro e w' ⟨rfl, rfl⟩))
  go_ret
  exact ⟨rfl, Grown.refl _⟩

end Go.Proofs.Ytkjhefmjpjpjiaa
