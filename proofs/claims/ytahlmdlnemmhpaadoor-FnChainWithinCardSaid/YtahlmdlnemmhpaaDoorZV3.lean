/-
  The walk of the law FnChainWithin. The table of math/bits lies as it is laid.
-/
import Derived.Test.YtahlmdlnemmhpaaDoorZDraw2
import Derived.Test.YtahlmdlnemmhpaaDoorZSpecW
import Derived.Outline
namespace Go.Proofs.YtahlmdlnemmhpaaDoor
open Go.RowKit

theorem with_cases (n m : Int) : withI n m = -1 ∨ ∃ N M X : Nat, n = (N : Int) ∧ m = (M : Int) ∧ 1 ≤ N ∧ N ≤ 6 ∧ withI n m = (X : Int) ∧ X < 128 ∧ closI n X = true ∧ stpI n X = (M : Int) ∧ withI n n = ((2 ^ (N + 1) : Nat) : Int) - 1 := by
  cases hn : inB n 1 6
  · left; exact withI_f (.inl hn)
  · cases hm : inB m 1 6
    · left; exact withI_f (.inr (.inl hm))
    · have h1 := inB_of hn
      have h2 := inB_of hm
      obtain ⟨N, rfl⟩ : ∃ N : Nat, n = (N : Int) := ⟨n.toNat, by omega⟩
      obtain ⟨M, rfl⟩ : ∃ M : Nat, m = (M : Int) := ⟨m.toNat, by omega⟩
      by_cases hd : N % M = 0
      · right
        have hN : 1 ≤ N ∧ N ≤ 6 := by omega
        have hle : M ≤ N := Nat.le_of_dvd (by omega) (Nat.dvd_of_mod_eq_zero hd)
        have p7 := pow_le7 hN.2
        have k := tab_of within_ok hN (s := M) (by
          have : N < 2 ^ N := Nat.lt_two_pow_self
          have : 2 ^ N ≤ 2 ^ (N + 1) := Nat.pow_le_pow_right (by omega) (by omega)
          omega)
        rw [decide_eq_true (show 1 ≤ M by omega), decide_eq_true hle, hd] at k
        simp only [Bool.and_self, beq_self_eq_true, Bool.not_true, Bool.false_or, Bool.and_eq_true, decide_eq_true_eq, beq_iff_eq] at k
        obtain ⟨⟨⟨k1, k2⟩, k3⟩, k4⟩ := k
        have hc : closI (N : Int) ((withinN N M : Nat) : Int) = true := by rw [closI_nat hN k2, ← closN_nat hN k2]; exact k1
        refine ⟨N, M, withinN N M, rfl, rfl, hN.1, hN.2, withI_t hN (by omega) hd, by omega, hc, ?_, ?_⟩
        · unfold stpI
          rw [hc, if_pos rfl, Int.toNat_natCast, Int.toNat_natCast, k3]
        · rw [withI_t hN hN (Nat.mod_self N), k4]
          have : 1 ≤ 2 ^ (N + 1) := Nat.two_pow_pos _
          omega
      · left; exact withI_f (.inr (.inr (by simpa using hd)))

theorem pow_all {N : Nat} (h : N ≤ 6) : ((2 : Int) ^ (N + 1) - 1 == IntKind.i64.wrap (IntKind.i64.wrap (2 ^ (N + 1)) - 1)) = true := by
  obtain rfl | rfl | rfl | rfl | rfl | rfl | rfl : N = 0 ∨ N = 1 ∨ N = 2 ∨ N = 3 ∨ N = 4 ∨ N = 5 ∨ N = 6 := by omega
  all_goals decide +kernel

set_option maxHeartbeats 2000000 in
theorem FnChainWithin_walk (a0 : Option Addr) (len0 cap0 : Nat) (z0 : List Int) (w : World) (w0 : IsRow .u8 w a0 len0 cap0 z0) (hT : TzAt w) :
    Calls Tryd.prog 5 #[.slice a0 len0 cap0] w fun e w' => e = .returned (.bool true) ∧ Below w.heap.size w w' := by
  by_cases hl : (1048576 : Int) < (len0 : Int)
  · clear w0
    go_enter Tryd.func5, Tryd.ntmps5
    go_wp2_with fail
    go_ret
    exact ⟨rfl, Below.refl _ _⟩
  · go_enter Tryd.func5, Tryd.ntmps5
    go_wp2_with fail
    refine (DrawChainWithin_any _ _ _ _ _ w0).mono ?_
    rintro e w1 ⟨n, m, rfl, hn1, hn2, hm1, hm2, g1⟩
    clear w0
    have ci := within_chain n m w1
    have cs := fun w => swithin_chain n m w
    rcases with_cases n m with h | ⟨N, M, X, rfl, rfl, k1, k2, h, hX, hc, hst, hw⟩
    · rw [h] at ci cs
      have G1 := Lib.hid g1
      clear h g1 hT
      go_wp2_with fail
      refine ci.mono ?_
      rintro e w2 ⟨rfl, g2⟩
      go_wp2_with fail
      refine (cs _).mono ?_
      rintro e w3 ⟨rfl, rfl⟩
      go_wp2_with fail
      refine (alive_any _).mono ?_
      rintro e w4 ⟨rfl, rfl⟩
      go_wp2_with fail
      go_ret
      exact ⟨rfl, below_of (grownBy_trans G1.out g2)⟩
    · rw [h] at ci cs
      have c1 : ∀ w : World, TzAt w → Calls Tryd.prog 13 #[.int .i64 N, .int .i64 X] w fun e w' => e = .returned (.bool true) ∧ w.grownBy w' none := fun w hT => by
        have := closed_any (N : Int) (X : Int) w hT
        rw [hc] at this
        exact this
      have c2 : ∀ w : World, TzAt w → Calls Tryd.prog 29 #[.int .i64 N, .int .i64 X] w fun e w' => e = .returned (.int .i64 (M : Int)) ∧ w.grownBy w' none := fun w hT => by
        have := stepsFor_any (N : Int) (X : Int) w hT
        rw [hst] at this
        exact this
      have c3 : ∀ w : World, Calls Tryd.prog 26 #[.int .i64 N, .int .i64 N] w fun e w' => e = .returned (.int .i64 (((2 ^ (N + 1) : Nat) : Int) - 1)) ∧ w.grownBy w' none := fun w => by
        have := within_chain (N : Int) (N : Int) w
        rw [hw] at this
        exact this
      clear h hc hst hw
      go_wp2_with fail
      refine ci.mono ?_
      rintro e w2 ⟨rfl, g2⟩
      go_wp2_with fail
      refine (cs _).mono ?_
      rintro e w3 ⟨rfl, rfl⟩
      have gg := grownBy_trans g1 g2
      clear ci cs g1 g2
      have a1 : IntKind.i64.wrap ((N : Int) + 1) = (N : Int) + 1 := IntWalk.i64_in _ (by omega)
      go_wp2_with fail
      go_region_held3 (fun w' => w.grownBy w' none) (first | exact grownBy_drew gg | assumption) (first
        | (go_at_call 13; refine (c1 _ (hT.grown (grownBy_drew gg))).mono ?_; rintro e wa ⟨rfl, ga⟩; have gga := grownBy_trans (grownBy_drew gg) ga)
        | (go_at_call 29; refine (c2 _ (hT.grown gga)).mono ?_; rintro e wb ⟨rfl, gb⟩; have ggb := grownBy_trans gga gb)
        | (go_at_call 26; refine (c3 _).mono ?_; rintro e wc ⟨rfl, gc⟩; have ggc := grownBy_trans ggb gc))
      all_goals
        go_wp2_with fail
      all_goals
        go_ret
        exact ⟨congrArg (fun b => Ending.returned (Value.bool b)) (pow_all k2), below_of ggc⟩

end Go.Proofs.YtahlmdlnemmhpaaDoor
