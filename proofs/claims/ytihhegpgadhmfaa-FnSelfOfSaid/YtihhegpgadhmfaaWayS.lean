/-
  The model's ways of chapter 3: TogetherBy, FollowsBy, NotBy, DivisibleOk of spec; DivisibleOk of impl.
-/
import Derived.Test.YtihhegpgadhmfaaWay
import Derived.BigQuiet
import Derived.Deep.QuietTactic
namespace Go.Proofs.Ytihhegpgadhmfaa
open Go.RowKit

theorem stog_any (k n a b : Int) (w : World) :
    Calls Try.prog 15 #[.int .i64 k, .int .i64 n, .int .i64 a, .int .i64 b] w fun e w' => e = .returned (.int .i64 (togW k n a b)) ∧ w = w' := by
  cases h : wayB k n a b
  · rw [togW_f h]
    have hn : inB k 0 2 = false ∨ (inB k 0 2 = true ∧ twoB n a b = false) := by
      unfold wayB at h
      cases h1 : inB k 0 2 <;> cases h2 : twoB n a b <;> simp_all
    rcases hn with h1 | ⟨h1, h2⟩
    all_goals
      go_enter Try.func15, Try.ntmps15
      go_wp2_with (first | (go_at_call 41; refine (in_any _ _ _ _).mono ?_; rintro e w' ⟨rfl, rfl⟩) | (go_at_call 42; refine (two_any _ _ _ _).mono ?_; rintro e w' ⟨rfl, rfl⟩))
      go_ret
      exact ⟨rfl, rfl⟩
  · rw [togW_t h]
    obtain ⟨h1, h2, hk, k1⟩ := wayB_of h
    rcases hk with rfl | rfl | rfl
    · have e := Lib.hid (timesV h2)
      rw [togV_0]
      clear h
      by_cases hc : 0 ≤ a + b - n
      all_goals
        go_enter Try.func15, Try.ntmps15
        go_wp2_with (first | (go_at_call 41; refine (in_any _ _ _ _).mono ?_; rintro e w' ⟨rfl, rfl⟩) | (go_at_call 42; refine (two_any _ _ _ _).mono ?_; rintro e w' ⟨rfl, rfl⟩))
        all_goals
          go_ret
          exact ⟨by refine congrArg (fun z : Int => Ending.returned (Value.int .i64 z)) ?_; have e := e.out; omega, rfl⟩
    · have e := Lib.hid (togV_1 n a b)
      clear h
      by_cases hc : a ≤ b
      all_goals
        go_enter Try.func15, Try.ntmps15
        go_wp2_with (first | (go_at_call 41; refine (in_any _ _ _ _).mono ?_; rintro e w' ⟨rfl, rfl⟩) | (go_at_call 42; refine (two_any _ _ _ _).mono ?_; rintro e w' ⟨rfl, rfl⟩))
        all_goals
          go_ret
          exact ⟨by refine congrArg (fun z : Int => Ending.returned (Value.int .i64 z)) ?_; have e := e.out; omega, rfl⟩
    · have e := Lib.hid (togV_2 n a b)
      have ga : (a = n ∧ (a == n) = true) ∨ (a < n ∧ (a == n) = false) := by
        by_cases q : a = n
        · exact Or.inl ⟨q, by simpa using q⟩
        · exact Or.inr ⟨by omega, by simpa using q⟩
      have gb : (b = n ∧ (b == n) = true) ∨ (b < n ∧ (b == n) = false) := by
        by_cases q : b = n
        · exact Or.inl ⟨q, by simpa using q⟩
        · exact Or.inr ⟨by omega, by simpa using q⟩
      clear h
      by_cases hc : a ≤ b
      all_goals
        rcases ga with ⟨qa, ea⟩ | ⟨qa, ea⟩ <;> rcases gb with ⟨qb, eb⟩ | ⟨qb, eb⟩
        all_goals
          have Qa := Lib.hid qa
          have Qb := Lib.hid qb
          clear qa qb
          go_enter Try.func15, Try.ntmps15
          go_wp2_with (first | (go_at_call 41; refine (in_any _ _ _ _).mono ?_; rintro e w' ⟨rfl, rfl⟩) | (go_at_call 42; refine (two_any _ _ _ _).mono ?_; rintro e w' ⟨rfl, rfl⟩))
          all_goals
            go_ret
            exact ⟨by refine congrArg (fun z : Int => Ending.returned (Value.int .i64 z)) ?_; have e := e.out; have qa := Qa.out; have qb := Qb.out; omega, rfl⟩

def SRel (k n a b : Int) (i : Value) : Prop := ∃ g : Int, fbV k n a b ≤ g ∧ g ≤ n ∧ i = .int .i64 g

theorem sfb_any (k n a b : Int) (w : World) :
    Calls Try.prog 19 #[.int .i64 k, .int .i64 n, .int .i64 a, .int .i64 b] w fun e w' => e = .returned (.int .i64 (fbW k n a b)) ∧ w = w' := by
  cases h : wayB k n a b
  · rw [fbW_f h]
    have e := togW_f h
    go_enter Try.func19, Try.ntmps19
    go_wp2_with (go_at_call 15; refine (stog_any _ _ _ _ _).mono ?_; rintro e w' ⟨rfl, rfl⟩)
    go_ret
    exact ⟨rfl, rfl⟩
  · rw [fbW_t h]
    have o := fbV_ok h
    have o2 := togV_ok h
    obtain ⟨h1, h2, hk, k1⟩ := wayB_of h
    have e := togW_t h
    have h0 : 0 ≤ togW k n a b := by omega
    clear e
    go_enter Try.func19, Try.ntmps19
    go_wp2_with (go_at_call 15; refine (stog_any _ _ _ _ _).mono ?_; rintro e w' ⟨rfl, rfl⟩)
    clear h0
    go_loop [9] (fun i => SRel k n a b i) (fun i => (intOf i).toNat)
    case atStart => exact ⟨n, o.2, by omega, rfl⟩
    case round =>
      obtain ⟨g, hg1, hg2, rfl⟩ := hrel
      by_cases hz : 0 < g
      · have hr := tog_fb h (c := g) (by omega)
        have e := togW_t (wayB_t (k := k) (n := n) (a := a) (b := g) (by omega) (by omega))
        rw [← e] at hr
        clear e
        by_cases hlt : fbV k n a b < g
        · have ht : ¬ togW k n a g ≤ b := by omega
          clear hr
          go_wp2_with (go_at_call 15; refine (stog_any _ _ _ _ _).mono ?_; rintro e w' ⟨rfl, rfl⟩)
          go_round
          case rel => exact ⟨g - 1, by omega, by omega, rfl⟩
          case measure => simp [intOf]; omega
        · have ht : togW k n a g ≤ b := by omega
          have he : Hid (g = fbV k n a b) := by unfold Hid; omega
          clear hr
          go_wp2_with (go_at_call 15; refine (stog_any _ _ _ _ _).mono ?_; rintro e w' ⟨rfl, rfl⟩)
          go_ret
          exact ⟨by rw [← he.out]; rfl, rfl⟩
      · have he : Hid (0 = fbV k n a b) := by unfold Hid; omega
        go_wp2_with (go_at_call 15; refine (stog_any _ _ _ _ _).mono ?_; rintro e w' ⟨rfl, rfl⟩)
        go_ret
        exact ⟨by rw [← he.out]; rfl, rfl⟩

theorem snotby_any (k n a : Int) (w : World) :
    Calls Try.prog 23 #[.int .i64 k, .int .i64 n, .int .i64 a] w fun e w' => e = .returned (.int .i64 (fbW k n a 0)) ∧ w = w' := by
  go_enter Try.func23, Try.ntmps23
  go_wp2_with (go_at_call 19; refine (sfb_any _ _ _ _ _).mono ?_; rintro e w' ⟨rfl, rfl⟩)
  go_ret
  exact ⟨rfl, rfl⟩

end Go.Proofs.Ytihhegpgadhmfaa
