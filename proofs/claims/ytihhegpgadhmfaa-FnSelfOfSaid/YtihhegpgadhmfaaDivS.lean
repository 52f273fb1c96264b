/-
  DivisibleOk of the model, and of impl in any way.
-/
import Derived.Test.YtihhegpgadhmfaaDiv0
import Derived.Test.YtihhegpgadhmfaaDiv1
import Derived.Test.YtihhegpgadhmfaaDiv2
namespace Go.Proofs.Ytihhegpgadhmfaa
open Go.RowKit

theorem div_any (k n : Int) (w : World) :
    Calls Try.prog 26 #[.int .i64 k, .int .i64 n] w fun e w' => e = .returned (.bool (divB k n)) ∧ w.grownBy w' none := by
  cases hk : inB k 0 2
  · rw [divB_out (Or.inl hk)]
    go_enter Try.func26, Try.ntmps26
    go_wp2_with (first | (go_at_call 39; refine (taking_any _ _).mono ?_; rintro e w1 ⟨rfl, rfl⟩) | (go_at_call 47; refine (steps_any _ _).mono ?_; rintro e w' ⟨rfl, rfl⟩))
    go_ret
    exact ⟨rfl, grownBy_refl _ _⟩
  · cases hn : inB n 1 6
    · rw [divB_out (Or.inr hn)]
      go_enter Try.func26, Try.ntmps26
      go_wp2_with (first | (go_at_call 39; refine (taking_any _ _).mono ?_; rintro e w1 ⟨rfl, rfl⟩) | (go_at_call 47; refine (steps_any _ _).mono ?_; rintro e w' ⟨rfl, rfl⟩))
      go_ret
      exact ⟨rfl, grownBy_refl _ _⟩
    · have k1 := inB_of hk
      have h3 : k = 0 ∨ k = 1 ∨ k = 2 := by omega
      rcases h3 with rfl | rfl | rfl
      · exact div_0 n hn w
      · exact div_1 n hn w
      · exact div_2 n hn w

/-- The last test of a round of the model. -/
theorem sD {k n a b : Int} (h : wayB k n a b = true) : togW k n a (fbW k n a b) = togV k n a (fbV k n a b) := by
  have o := fbV_ok h
  obtain ⟨_, _, hk, k1⟩ := wayB_of h
  rw [fbW_t h]
  exact togW_t (wayB_t (by omega) (by omega))

def SDRel (k n : Int) (i : Value) : Prop := ∃ a : Int, 0 ≤ a ∧ a ≤ n + 1 ∧ i = .int .i64 a ∧ okTo k n a 0
def SERel (k n a : Int) (i : Value) : Prop := ∃ b : Int, 0 ≤ b ∧ b ≤ n + 1 ∧ i = .int .i64 b ∧ okTo k n a b

set_option maxHeartbeats 1000000 in
theorem sdiv_any (k n : Int) (w : World) :
    Calls Try.prog 27 #[.int .i64 k, .int .i64 n] w fun e w' => e = .returned (.bool (divB k n)) ∧ w = w' := by
  cases hk : inB k 0 2
  · rw [divB_out (Or.inl hk)]
    go_enter Try.func27, Try.ntmps27
    go_wp2_with (go_at_call 41; refine (in_any _ _ _ _).mono ?_; rintro e w' ⟨rfl, rfl⟩)
    go_ret
    exact ⟨rfl, rfl⟩
  · cases hn : inB n 1 6
    · rw [divB_out (Or.inr hn)]
      go_enter Try.func27, Try.ntmps27
      go_wp2_with (go_at_call 41; refine (in_any _ _ _ _).mono ?_; rintro e w' ⟨rfl, rfl⟩)
      go_ret
      exact ⟨rfl, rfl⟩
    · have k0 := inB_of hk
      have k1 := inB_of hn
      go_enter Try.func27, Try.ntmps27
      go_wp2_with (go_at_call 41; refine (in_any _ _ _ _).mono ?_; rintro e w' ⟨rfl, rfl⟩)
      go_loop [5] (fun i => SDRel k n i) (fun i => (n + 1 - intOf i).toNat)
      case atStart => exact ⟨0, by omega, by omega, rfl, okTo_0 _ _⟩
      case round =>
        obtain ⟨a, ha1, ha2, rfl, hok⟩ := hrel
        have Hok := Lib.hid hok
        clear hok
        by_cases hlt : a ≤ n
        · go_wp2
          go_loop [6] (fun j => SERel k n a j) (fun j => (n + 1 - intOf j).toNat)
          case atStart => exact ⟨0, by omega, by omega, rfl, Hok.out⟩
          case round =>
            obtain ⟨b, hb1, hb2, rfl, hok2⟩ := hrel
            have Hok2 := Lib.hid hok2
            clear hok2
            by_cases hltb : b ≤ n
            · have hwb : wayB k n a b = true := wayB_t (by omega) (by omega)
              have hs := sD hwb
              by_cases hc : a ≤ b <;> by_cases hD : okD k n a b
              · have hq := okD_le hD hc
                rw [← hs] at hq
                clear hs
                go_wp2_with (first | (go_at_call 15; refine (stog_any _ _ _ _ _).mono ?_; rintro e w' ⟨rfl, rfl⟩) | (go_at_call 19; refine (sfb_any _ _ _ _ _).mono ?_; rintro e w' ⟨rfl, rfl⟩))
                go_round
                case rel => exact ⟨b + 1, by omega, by omega, rfl, okTo_next Hok2.out hD⟩
                case measure => simp [intOf]; omega
              · have hq := noD_le hD hc
                have hz := Lib.hid (divB_not hwb hD)
                rw [← hs] at hq
                clear hs
                go_wp2_with (first | (go_at_call 15; refine (stog_any _ _ _ _ _).mono ?_; rintro e w' ⟨rfl, rfl⟩) | (go_at_call 19; refine (sfb_any _ _ _ _ _).mono ?_; rintro e w' ⟨rfl, rfl⟩))
                go_ret
                exact ⟨by rw [hz.out]; rfl, rfl⟩
              · have hq := okD_gt hD hc
                rw [← hs] at hq
                clear hs
                go_wp2_with (first | (go_at_call 15; refine (stog_any _ _ _ _ _).mono ?_; rintro e w' ⟨rfl, rfl⟩) | (go_at_call 19; refine (sfb_any _ _ _ _ _).mono ?_; rintro e w' ⟨rfl, rfl⟩))
                go_round
                case rel => exact ⟨b + 1, by omega, by omega, rfl, okTo_next Hok2.out hD⟩
                case measure => simp [intOf]; omega
              · have hq := noD_gt hD hc
                have hz := Lib.hid (divB_not hwb hD)
                rw [← hs] at hq
                clear hs
                go_wp2_with (first | (go_at_call 15; refine (stog_any _ _ _ _ _).mono ?_; rintro e w' ⟨rfl, rfl⟩) | (go_at_call 19; refine (sfb_any _ _ _ _ _).mono ?_; rintro e w' ⟨rfl, rfl⟩))
                go_ret
                exact ⟨by rw [hz.out]; rfl, rfl⟩
            · have hb : b = n + 1 := by omega
              have hz := Lib.hid (okTo_row (hb ▸ Hok2.out))
              clear hb
              go_wp2
              go_round
              case rel => exact ⟨a + 1, by omega, by omega, rfl, hz.out⟩
              case measure => simp [intOf]; omega
        · have ha : a = n + 1 := by omega
          have hz := Lib.hid (divB_all hk hn (ha ▸ Hok.out))
          clear ha
          go_wp2
          go_ret
          exact ⟨by rw [hz.out]; rfl, rfl⟩

end Go.Proofs.Ytihhegpgadhmfaa
