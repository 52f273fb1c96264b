/-
  The three ways of taking together behind their interface: takingOf, the three methods, TogetherBy of both sides.
-/
import Derived.Test.YtihhegpgadhmfaaTog
import Derived.Outline
namespace Go.Proofs.Ytihhegpgadhmfaa
open Go.RowKit

def wayV (k : Int) : Value := if k = 0 then .iface 58 (.agg #[]) else if k = 1 then .iface 59 (.agg #[]) else if k = 2 then .iface 60 (.agg #[]) else .nilIface

theorem taking_any (k : Int) (w : World) :
    Calls Try.prog 39 #[.int .i64 k] w fun e w' => e = .returned (.tuple #[wayV k, .bool (inB k 0 2)]) ∧ w = w' := by
  by_cases h0 : k = 0
  · subst h0
    go_enter Try.func39, Try.ntmps39
    go_wp2
    go_ret2
    exact ⟨rfl, rfl⟩
  · by_cases h1 : k = 1
    · subst h1
      go_enter Try.func39, Try.ntmps39
      go_wp2
      go_ret2
      exact ⟨rfl, rfl⟩
    · by_cases h2 : k = 2
      · subst h2
        go_enter Try.func39, Try.ntmps39
        go_wp2
        go_ret2
        exact ⟨rfl, rfl⟩
      · have e1 : wayV k = .nilIface := by unfold wayV; rw [if_neg h0, if_neg h1, if_neg h2]
        rw [e1, inB_f (by omega)]
        have g0 : (k == 0) = false := by simpa using h0
        have g1 : (k == 1) = false := by simpa using h1
        have g2 : (k == 2) = false := by simpa using h2
        clear e1
        go_enter Try.func39, Try.ntmps39
        go_wp2
        go_ret2
        exact ⟨rfl, rfl⟩

theorem taking_0 (w : World) :
    Calls Try.prog 39 #[.int .i64 0] w fun e w' => e = .returned (.tuple #[.iface 58 (.agg #[]), .bool true]) ∧ w = w' := taking_any 0 w

theorem taking_1 (w : World) :
    Calls Try.prog 39 #[.int .i64 1] w fun e w' => e = .returned (.tuple #[.iface 59 (.agg #[]), .bool true]) ∧ w = w' := taking_any 1 w

theorem taking_2 (w : World) :
    Calls Try.prog 39 #[.int .i64 2] w fun e w' => e = .returned (.tuple #[.iface 60 (.agg #[]), .bool true]) ∧ w = w' := taking_any 2 w

theorem lacking_m (n a b : Int) (w : World) :
    Calls Try.prog 72 #[.agg #[], .int .i64 n, .int .i64 a, .int .i64 b] w fun e w' => e = .returned (.int .i64 (timesW n a b)) ∧ w.grownBy w' none := by
  go_enter Try.func72, Try.ntmps72
  go_wp2_with (go_at_call 73; refine (times_any _ _ _ _).mono ?_; rintro e w1 ⟨rfl, hg⟩)
  go_ret
  exact ⟨rfl, grownBy_trans (World.grownBy_alloc _ _ _) hg⟩

theorem lesser_m (n a b : Int) (w : World) :
    Calls Try.prog 74 #[.agg #[], .int .i64 n, .int .i64 a, .int .i64 b] w fun e w' => e = .returned (.int .i64 (if a ≤ b then a else b)) ∧ w.grownBy w' none := by
  by_cases h : a ≤ b
  · rw [if_pos h]
    go_enter Try.func74, Try.ntmps74
    go_wp2
    all_goals
      go_ret
      exact ⟨by first | rfl | (refine congrArg (fun z : Int => Ending.returned (Value.int .i64 z)) ?_; omega), World.grownBy_alloc _ _ _⟩
  · rw [if_neg h]
    go_enter Try.func74, Try.ntmps74
    go_wp2
    all_goals
      go_ret
      exact ⟨by first | rfl | (refine congrArg (fun z : Int => Ending.returned (Value.int .i64 z)) ?_; omega), World.grownBy_alloc _ _ _⟩

theorem strict_m (n a b : Int) (ht : twoB n a b = true) (w : World) :
    Calls Try.prog 75 #[.agg #[], .int .i64 n, .int .i64 a, .int .i64 b] w fun e w' => e = .returned (.int .i64 (togV 2 n a b)) ∧ w.grownBy w' none := by
  have e := togV_2 n a b
  have e' := Lib.hid e
  clear e
  obtain ⟨_, _, k⟩ := twoB_of ht
  clear ht
  by_cases h : a ≤ b
  all_goals
    go_enter Try.func75, Try.ntmps75
    go_wp2
    all_goals
      go_ret
      exact ⟨by refine congrArg (fun z : Int => Ending.returned (Value.int .i64 z)) ?_; have e := e'.out; omega, World.grownBy_alloc _ _ _⟩

theorem meth_0 (F : Nat) (w : World) : (method (F + 1) 58 (.agg #[]) "loop.example/manyvalues/impl.together").run Try.prog w = .ok (72, .agg #[]) w := by kernel_rfl
theorem meth_1 (F : Nat) (w : World) : (method (F + 1) 59 (.agg #[]) "loop.example/manyvalues/impl.together").run Try.prog w = .ok (74, .agg #[]) w := by kernel_rfl
theorem meth_2 (F : Nat) (w : World) : (method (F + 1) 60 (.agg #[]) "loop.example/manyvalues/impl.together").run Try.prog w = .ok (75, .agg #[]) w := by kernel_rfl

theorem m_0 (n a b : Int) (_ht : twoB n a b = true) (w : World) :
    Calls Try.prog 72 #[.agg #[], .int .i64 n, .int .i64 a, .int .i64 b] w fun e w' => e = .returned (.int .i64 (togV 0 n a b)) ∧ w.grownBy w' none := lacking_m n a b w

theorem m_1 (n a b : Int) (_ht : twoB n a b = true) (w : World) :
    Calls Try.prog 74 #[.agg #[], .int .i64 n, .int .i64 a, .int .i64 b] w fun e w' => e = .returned (.int .i64 (togV 1 n a b)) ∧ w.grownBy w' none := lesser_m n a b w

theorem m_2 (n a b : Int) (ht : twoB n a b = true) (w : World) :
    Calls Try.prog 75 #[.agg #[], .int .i64 n, .int .i64 a, .int .i64 b] w fun e w' => e = .returned (.int .i64 (togV 2 n a b)) ∧ w.grownBy w' none := strict_m n a b ht w

def GRel (k n a b : Int) (w : World) (i : Value) (wr : World) : Prop := ∃ g : Int, fbV k n a b ≤ g ∧ g ≤ n ∧ i = .int .i64 g ∧ w.grownBy wr none

theorem together_0 (n a b : Int) (w : World) (h : wayB 0 n a b = true) :
    Calls Try.prog 14 #[.int .i64 0, .int .i64 n, .int .i64 a, .int .i64 b] w fun e w' => e = .returned (.int .i64 (togV 0 n a b)) ∧ w.grownBy w' none := by
  obtain ⟨h1, h2, _⟩ := wayB_of h
  obtain ⟨h3, h4, _⟩ := twoB_of h2
  have hm := meth_0
  go_enter Try.func14, Try.ntmps14
  go_wp2_with (first | (go_at_call 39; refine (taking_0 _).mono ?_; rintro e w1 ⟨rfl, rfl⟩) | (go_at_call 40; refine (vok_any _ _ _).mono ?_; rintro e w' ⟨rfl, rfl⟩) | (go_at_call 72; refine (m_0 n a b h2 _).mono ?_; rintro e w' ⟨rfl, hg⟩))
  go_ret
  exact ⟨rfl, hg⟩

theorem great_0 (n a b : Int) (w : World) (h : wayB 0 n a b = true) :
    Calls Try.prog 43 #[.iface 58 (.agg #[]), .int .i64 n, .int .i64 a, .int .i64 b] w fun e w' => e = .returned (.int .i64 (fbV 0 n a b)) ∧ w.grownBy w' none := by
  have o := fbV_ok h
  obtain ⟨_, _, _, k1⟩ := wayB_of h
  have hm := meth_0
  go_enter Try.func43, Try.ntmps43
  go_wp2
  go_loopw [9] (fun i wr => GRel 0 n a b w i wr) (fun i _ => (intOf i).toNat)
  case atStart => exact ⟨n, o.2, by omega, rfl, grownBy_refl _ _⟩
  case round =>
    obtain ⟨g, hg1, hg2, rfl, hgr⟩ := hrel
    have hr := tog_fb h (c := g) (by omega)
    by_cases hlt : fbV 0 n a b < g
    · have ht : b < togV 0 n a g := by omega
      clear hr
      go_wp2_with (go_at_call 72; refine (m_0 n a g (twoB_t (by omega)) _).mono ?_; rintro e w2 ⟨rfl, hg3⟩)
      go_roundw
      case rel => exact ⟨g - 1, by omega, by omega, rfl, grownBy_trans hgr hg3⟩
      case measure => simp [intOf]; omega
    · have ht : togV 0 n a g ≤ b := by omega
      have he : Hid (g = fbV 0 n a b) := by unfold Hid; omega
      clear hr
      go_wp2_with (go_at_call 72; refine (m_0 n a g (twoB_t (by omega)) _).mono ?_; rintro e w2 ⟨rfl, hg3⟩)
      go_ret
      exact ⟨by rw [← he.out]; rfl, grownBy_trans hgr hg3⟩

theorem fb_0 (n a b : Int) (w : World) (h : wayB 0 n a b = true) :
    Calls Try.prog 18 #[.int .i64 0, .int .i64 n, .int .i64 a, .int .i64 b] w fun e w' => e = .returned (.int .i64 (fbV 0 n a b)) ∧ w.grownBy w' none := by
  obtain ⟨h1, h2, _⟩ := wayB_of h
  obtain ⟨h3, h4, _⟩ := twoB_of h2
  go_enter Try.func18, Try.ntmps18
  go_wp2_with (first | (go_at_call 39; refine (taking_0 _).mono ?_; rintro e w1 ⟨rfl, rfl⟩) | (go_at_call 40; refine (vok_any _ _ _).mono ?_; rintro e w' ⟨rfl, rfl⟩) | (go_at_call 43; refine (great_0 n a b _ h).mono ?_; rintro e w' ⟨rfl, hg⟩))
  go_ret
  exact ⟨rfl, hg⟩

theorem together_1 (n a b : Int) (w : World) (h : wayB 1 n a b = true) :
    Calls Try.prog 14 #[.int .i64 1, .int .i64 n, .int .i64 a, .int .i64 b] w fun e w' => e = .returned (.int .i64 (togV 1 n a b)) ∧ w.grownBy w' none := by
  obtain ⟨h1, h2, _⟩ := wayB_of h
  obtain ⟨h3, h4, _⟩ := twoB_of h2
  have hm := meth_1
  go_enter Try.func14, Try.ntmps14
  go_wp2_with (first | (go_at_call 39; refine (taking_1 _).mono ?_; rintro e w1 ⟨rfl, rfl⟩) | (go_at_call 40; refine (vok_any _ _ _).mono ?_; rintro e w' ⟨rfl, rfl⟩) | (go_at_call 74; refine (m_1 n a b h2 _).mono ?_; rintro e w' ⟨rfl, hg⟩))
  go_ret
  exact ⟨rfl, hg⟩

theorem great_1 (n a b : Int) (w : World) (h : wayB 1 n a b = true) :
    Calls Try.prog 43 #[.iface 59 (.agg #[]), .int .i64 n, .int .i64 a, .int .i64 b] w fun e w' => e = .returned (.int .i64 (fbV 1 n a b)) ∧ w.grownBy w' none := by
  have o := fbV_ok h
  obtain ⟨_, _, _, k1⟩ := wayB_of h
  have hm := meth_1
  go_enter Try.func43, Try.ntmps43
  go_wp2
  go_loopw [9] (fun i wr => GRel 1 n a b w i wr) (fun i _ => (intOf i).toNat)
  case atStart => exact ⟨n, o.2, by omega, rfl, grownBy_refl _ _⟩
  case round =>
    obtain ⟨g, hg1, hg2, rfl, hgr⟩ := hrel
    have hr := tog_fb h (c := g) (by omega)
    by_cases hlt : fbV 1 n a b < g
    · have ht : b < togV 1 n a g := by omega
      clear hr
      go_wp2_with (go_at_call 74; refine (m_1 n a g (twoB_t (by omega)) _).mono ?_; rintro e w2 ⟨rfl, hg3⟩)
      go_roundw
      case rel => exact ⟨g - 1, by omega, by omega, rfl, grownBy_trans hgr hg3⟩
      case measure => simp [intOf]; omega
    · have ht : togV 1 n a g ≤ b := by omega
      have he : Hid (g = fbV 1 n a b) := by unfold Hid; omega
      clear hr
      go_wp2_with (go_at_call 74; refine (m_1 n a g (twoB_t (by omega)) _).mono ?_; rintro e w2 ⟨rfl, hg3⟩)
      go_ret
      exact ⟨by rw [← he.out]; rfl, grownBy_trans hgr hg3⟩

theorem fb_1 (n a b : Int) (w : World) (h : wayB 1 n a b = true) :
    Calls Try.prog 18 #[.int .i64 1, .int .i64 n, .int .i64 a, .int .i64 b] w fun e w' => e = .returned (.int .i64 (fbV 1 n a b)) ∧ w.grownBy w' none := by
  obtain ⟨h1, h2, _⟩ := wayB_of h
  obtain ⟨h3, h4, _⟩ := twoB_of h2
  go_enter Try.func18, Try.ntmps18
  go_wp2_with (first | (go_at_call 39; refine (taking_1 _).mono ?_; rintro e w1 ⟨rfl, rfl⟩) | (go_at_call 40; refine (vok_any _ _ _).mono ?_; rintro e w' ⟨rfl, rfl⟩) | (go_at_call 43; refine (great_1 n a b _ h).mono ?_; rintro e w' ⟨rfl, hg⟩))
  go_ret
  exact ⟨rfl, hg⟩

theorem together_2 (n a b : Int) (w : World) (h : wayB 2 n a b = true) :
    Calls Try.prog 14 #[.int .i64 2, .int .i64 n, .int .i64 a, .int .i64 b] w fun e w' => e = .returned (.int .i64 (togV 2 n a b)) ∧ w.grownBy w' none := by
  obtain ⟨h1, h2, _⟩ := wayB_of h
  obtain ⟨h3, h4, _⟩ := twoB_of h2
  have hm := meth_2
  go_enter Try.func14, Try.ntmps14
  go_wp2_with (first | (go_at_call 39; refine (taking_2 _).mono ?_; rintro e w1 ⟨rfl, rfl⟩) | (go_at_call 40; refine (vok_any _ _ _).mono ?_; rintro e w' ⟨rfl, rfl⟩) | (go_at_call 75; refine (m_2 n a b h2 _).mono ?_; rintro e w' ⟨rfl, hg⟩))
  go_ret
  exact ⟨rfl, hg⟩

theorem great_2 (n a b : Int) (w : World) (h : wayB 2 n a b = true) :
    Calls Try.prog 43 #[.iface 60 (.agg #[]), .int .i64 n, .int .i64 a, .int .i64 b] w fun e w' => e = .returned (.int .i64 (fbV 2 n a b)) ∧ w.grownBy w' none := by
  have o := fbV_ok h
  obtain ⟨_, _, _, k1⟩ := wayB_of h
  have hm := meth_2
  go_enter Try.func43, Try.ntmps43
  go_wp2
  go_loopw [9] (fun i wr => GRel 2 n a b w i wr) (fun i _ => (intOf i).toNat)
  case atStart => exact ⟨n, o.2, by omega, rfl, grownBy_refl _ _⟩
  case round =>
    obtain ⟨g, hg1, hg2, rfl, hgr⟩ := hrel
    have hr := tog_fb h (c := g) (by omega)
    by_cases hlt : fbV 2 n a b < g
    · have ht : b < togV 2 n a g := by omega
      clear hr
      go_wp2_with (go_at_call 75; refine (m_2 n a g (twoB_t (by omega)) _).mono ?_; rintro e w2 ⟨rfl, hg3⟩)
      go_roundw
      case rel => exact ⟨g - 1, by omega, by omega, rfl, grownBy_trans hgr hg3⟩
      case measure => simp [intOf]; omega
    · have ht : togV 2 n a g ≤ b := by omega
      have he : Hid (g = fbV 2 n a b) := by unfold Hid; omega
      clear hr
      go_wp2_with (go_at_call 75; refine (m_2 n a g (twoB_t (by omega)) _).mono ?_; rintro e w2 ⟨rfl, hg3⟩)
      go_ret
      exact ⟨by rw [← he.out]; rfl, grownBy_trans hgr hg3⟩

theorem fb_2 (n a b : Int) (w : World) (h : wayB 2 n a b = true) :
    Calls Try.prog 18 #[.int .i64 2, .int .i64 n, .int .i64 a, .int .i64 b] w fun e w' => e = .returned (.int .i64 (fbV 2 n a b)) ∧ w.grownBy w' none := by
  obtain ⟨h1, h2, _⟩ := wayB_of h
  obtain ⟨h3, h4, _⟩ := twoB_of h2
  go_enter Try.func18, Try.ntmps18
  go_wp2_with (first | (go_at_call 39; refine (taking_2 _).mono ?_; rintro e w1 ⟨rfl, rfl⟩) | (go_at_call 40; refine (vok_any _ _ _).mono ?_; rintro e w' ⟨rfl, rfl⟩) | (go_at_call 43; refine (great_2 n a b _ h).mono ?_; rintro e w' ⟨rfl, hg⟩))
  go_ret
  exact ⟨rfl, hg⟩

theorem together_any (k n a b : Int) (w : World) :
    Calls Try.prog 14 #[.int .i64 k, .int .i64 n, .int .i64 a, .int .i64 b] w fun e w' => e = .returned (.int .i64 (togW k n a b)) ∧ w.grownBy w' none := by
  cases h : wayB k n a b
  · rw [togW_f h]
    rcases wayB_no h with h1 | ⟨h1, h2⟩ | ⟨h1, h2, h3⟩
    all_goals
      go_enter Try.func14, Try.ntmps14
      go_wp2_with (first | (go_at_call 39; refine (taking_any _ _).mono ?_; rintro e w1 ⟨rfl, rfl⟩) | (go_at_call 40; refine (vok_any _ _ _).mono ?_; rintro e w' ⟨rfl, rfl⟩))
      go_ret
      exact ⟨rfl, grownBy_refl _ _⟩
  · rw [togW_t h]
    rcases (wayB_of h).2.2.1 with rfl | rfl | rfl
    · exact together_0 n a b w h
    · exact together_1 n a b w h
    · exact together_2 n a b w h

theorem fb_any (k n a b : Int) (w : World) :
    Calls Try.prog 18 #[.int .i64 k, .int .i64 n, .int .i64 a, .int .i64 b] w fun e w' => e = .returned (.int .i64 (fbW k n a b)) ∧ w.grownBy w' none := by
  cases h : wayB k n a b
  · rw [fbW_f h]
    rcases wayB_no h with h1 | ⟨h1, h2⟩ | ⟨h1, h2, h3⟩
    all_goals
      go_enter Try.func18, Try.ntmps18
      go_wp2_with (first | (go_at_call 39; refine (taking_any _ _).mono ?_; rintro e w1 ⟨rfl, rfl⟩) | (go_at_call 40; refine (vok_any _ _ _).mono ?_; rintro e w' ⟨rfl, rfl⟩))
      go_ret
      exact ⟨rfl, grownBy_refl _ _⟩
  · rw [fbW_t h]
    rcases (wayB_of h).2.2.1 with rfl | rfl | rfl
    · exact fb_0 n a b w h
    · exact fb_1 n a b w h
    · exact fb_2 n a b w h

theorem notby_any (k n a : Int) (w : World) :
    Calls Try.prog 22 #[.int .i64 k, .int .i64 n, .int .i64 a] w fun e w' => e = .returned (.int .i64 (fbW k n a 0)) ∧ w.grownBy w' none := by
  go_enter Try.func22, Try.ntmps22
  go_wp2_with (go_at_call 18; refine (fb_any _ _ _ _ _).mono ?_; rintro e w' ⟨rfl, hg⟩)
  go_ret
  exact ⟨rfl, hg⟩

end Go.Proofs.Ytihhegpgadhmfaa
