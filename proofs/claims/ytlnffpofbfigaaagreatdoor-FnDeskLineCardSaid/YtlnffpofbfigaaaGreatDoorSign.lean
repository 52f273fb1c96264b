/-
  What the signs of chapter 2 answer, as plain numbers, and the contracts of the model's functions and of impl.NotOf. No condition.
-/
import Derived.Test.YtlnffpofbfigaaaGreatDoorBase
namespace Go.Proofs.YtlnffpofbfigaaaGreatDoor
open Go.RowKit

def twoB (n a b : Int) : Bool := vokB n a && vokB n b
theorem twoB_of {n a b : Int} (h : twoB n a b = true) : vokB n a = true ∧ vokB n b = true ∧ 1 ≤ n ∧ n ≤ 6 ∧ 0 ≤ a ∧ a ≤ n ∧ 0 ≤ b ∧ b ≤ n := by
  unfold twoB at h
  rw [Bool.and_eq_true] at h
  have h1 := vokB_of h.1
  have h2 := vokB_of h.2
  exact ⟨h.1, h.2, h1.1, h1.2.1, h1.2.2.1, h1.2.2.2, h2.2.2.1, h2.2.2.2⟩
theorem twoB_mk {n a b : Int} (h1 : vokB n a = true) (h2 : vokB n b = true) : twoB n a b = true := by unfold twoB; rw [h1, h2]; rfl
theorem twoB_t {n a b : Int} (h : 1 ≤ n ∧ n ≤ 6 ∧ 0 ≤ a ∧ a ≤ n ∧ 0 ≤ b ∧ b ≤ n) : twoB n a b = true := twoB_mk (vokB_t (by omega)) (vokB_t (by omega))

def notW (n a : Int) : Int := if vokB n a = true then n - a else -1
theorem notW_t {n a : Int} (h : vokB n a = true) : notW n a = n - a := if_pos h
theorem notW_f {n a : Int} (h : vokB n a = false) : notW n a = -1 := if_neg (by rw [h]; simp)

def folW (n a b : Int) : Int := if twoB n a b = true then (if n - a + b ≤ n then n - a + b else n) else -1
theorem folW_t {n a b : Int} (h : twoB n a b = true) (hc : n - a + b ≤ n) : folW n a b = n - a + b := by unfold folW; rw [if_pos h, if_pos hc]
theorem folW_e {n a b : Int} (h : twoB n a b = true) (hc : ¬ (n - a + b ≤ n)) : folW n a b = n := by unfold folW; rw [if_pos h, if_neg hc]
theorem folW_f {n a b : Int} (h : twoB n a b = false) : folW n a b = -1 := by unfold folW; rw [h]; rfl
theorem folW_ok {n a b : Int} (h : twoB n a b = true) : 0 ≤ folW n a b ∧ folW n a b ≤ n := by
  have k := twoB_of h
  unfold folW
  rw [if_pos h]
  split <;> omega

def plusW (n a b : Int) : Int := if twoB n a b = true then (if a + b ≤ n then a + b else n) else -1
theorem plusW_t {n a b : Int} (h : twoB n a b = true) (hc : a + b ≤ n) : plusW n a b = a + b := by unfold plusW; rw [if_pos h, if_pos hc]
theorem plusW_e {n a b : Int} (h : twoB n a b = true) (hc : ¬ (a + b ≤ n)) : plusW n a b = n := by unfold plusW; rw [if_pos h, if_neg hc]
theorem plusW_f {n a b : Int} (h : twoB n a b = false) : plusW n a b = -1 := by unfold plusW; rw [h]; rfl
theorem plusW_ok {n a b : Int} (h : twoB n a b = true) : 0 ≤ plusW n a b ∧ plusW n a b ≤ n := by
  have k := twoB_of h
  unfold plusW
  rw [if_pos h]
  split <;> omega

def timesW (n a b : Int) : Int := if twoB n a b = true then (if 0 ≤ a + b - n then a + b - n else 0) else -1
theorem timesW_t {n a b : Int} (h : twoB n a b = true) (hc : 0 ≤ a + b - n) : timesW n a b = a + b - n := by unfold timesW; rw [if_pos h, if_pos hc]
theorem timesW_e {n a b : Int} (h : twoB n a b = true) (hc : ¬ (0 ≤ a + b - n)) : timesW n a b = 0 := by unfold timesW; rw [if_pos h, if_neg hc]
theorem timesW_f {n a b : Int} (h : twoB n a b = false) : timesW n a b = -1 := by unfold timesW; rw [h]; rfl
theorem timesW_ok {n a b : Int} (h : twoB n a b = true) : 0 ≤ timesW n a b ∧ timesW n a b ≤ n := by
  have k := twoB_of h
  unfold timesW
  rw [if_pos h]
  split <;> omega

def lessW (n a b : Int) : Int := if twoB n a b = true then (if a ≤ b then a else b) else -1
theorem lessW_t {n a b : Int} (h : twoB n a b = true) (hc : a ≤ b) : lessW n a b = a := by unfold lessW; rw [if_pos h, if_pos hc]
theorem lessW_e {n a b : Int} (h : twoB n a b = true) (hc : ¬ (a ≤ b)) : lessW n a b = b := by unfold lessW; rw [if_pos h, if_neg hc]
theorem lessW_f {n a b : Int} (h : twoB n a b = false) : lessW n a b = -1 := by unfold lessW; rw [h]; rfl
theorem lessW_ok {n a b : Int} (h : twoB n a b = true) : 0 ≤ lessW n a b ∧ lessW n a b ≤ n := by
  have k := twoB_of h
  unfold lessW
  rw [if_pos h]
  split <;> omega

def greatW (n a b : Int) : Int := if twoB n a b = true then (if a ≤ b then b else a) else -1
theorem greatW_t {n a b : Int} (h : twoB n a b = true) (hc : a ≤ b) : greatW n a b = b := by unfold greatW; rw [if_pos h, if_pos hc]
theorem greatW_e {n a b : Int} (h : twoB n a b = true) (hc : ¬ (a ≤ b)) : greatW n a b = a := by unfold greatW; rw [if_pos h, if_neg hc]
theorem greatW_f {n a b : Int} (h : twoB n a b = false) : greatW n a b = -1 := by unfold greatW; rw [h]; rfl
theorem greatW_ok {n a b : Int} (h : twoB n a b = true) : 0 ≤ greatW n a b ∧ greatW n a b ≤ n := by
  have k := twoB_of h
  unfold greatW
  rw [if_pos h]
  split <;> omega

theorem not_any (n a : Int) (w : World) :
    Calls Tryz.prog 193 #[.int .i64 n, .int .i64 a] w fun e w' => e = .returned (.int .i64 (notW n a)) ∧ w = w' := by
  cases h : vokB n a
  · rw [notW_f h]
    go_enter Tryz.func193, Tryz.ntmps193
    go_wp2_with (go_at_call 58; refine (vok_any _ _ _).mono ?_; rintro e w' ⟨rfl, rfl⟩)
    go_ret
    exact ⟨rfl, rfl⟩
  · have k := vokB_of h
    rw [notW_t h]
    go_enter Tryz.func193, Tryz.ntmps193
    go_wp2_with (go_at_call 58; refine (vok_any _ _ _).mono ?_; rintro e w' ⟨rfl, rfl⟩)
    go_ret
    exact ⟨rfl, rfl⟩

theorem two_any (n a b : Int) (w : World) :
    Calls Tryz.prog 115 #[.int .i64 n, .int .i64 a, .int .i64 b] w fun e w' => e = .returned (.bool (twoB n a b)) ∧ w = w' := by
  unfold twoB
  cases h1 : vokB n a <;> cases h2 : vokB n b
  all_goals
    go_enter Tryz.func115, Tryz.ntmps115
    go_wp2_with (go_at_call 116; refine (svok_any _ _ _).mono ?_; rintro e w' ⟨rfl, rfl⟩)
    go_ret
    exact ⟨rfl, rfl⟩

end Go.Proofs.YtlnffpofbfigaaaGreatDoor
