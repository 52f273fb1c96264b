/-
  The walk of the law FnLeastAt.
-/
import Derived.Test.YtkkmoaenlnibiaaAIs
namespace Go.Proofs.Ytkkmoaenlnibiaa
open Go.RowKit

set_option maxRecDepth 100000 in
set_option maxHeartbeats 2000000 in
theorem FnLeastAt_walk (a0 : Option Addr) (len0 cap0 : Nat) (z0 : List Int) (w : World) (w0 : IsRow .u8 w a0 len0 cap0 z0) :
    Calls Try.prog 3 #[.slice a0 len0 cap0] w fun e w' => e = .returned (.bool true) ∧ Below w.heap.size w w' := by
  by_cases hl : (1048576 : Int) < (len0 : Int)
  · clear w0
    go_enter Try.func3, Try.ntmps3
    go_wp2_with fail
    go_ret
    exact ⟨rfl, Below.refl _ _⟩
  · go_enter Try.func3, Try.ntmps3
    go_wp2_with fail
    refine (DrawLeastAt_any _ _ _ _ _ w0).mono ?_
    rintro e w1 ⟨n, s, rfl, hs, n1, n2, g1⟩
    clear w0
    by_cases hneg : leastI n (bl s) < 0
    · have c1 := least_is n s (least_m1 hneg)
      have c2 := sleast_is n s (least_m1 hneg)
      clear hneg
      go_wp2_with fail
      refine (c1 _).mono ?_
      rintro e w2 ⟨rfl, g2⟩
      clear c1
      go_wp2_with fail
      refine (c2 _).mono ?_
      rintro e w3 ⟨rfl, g3⟩
      clear c2
      go_wp2_with (go_at_call 18; refine (alive_any _).mono ?_; rintro e w' ⟨rfl, rfl⟩)
      go_ret
      exact ⟨rfl, below_of (grownBy_trans g1 (grownBy_trans g2 g3))⟩
    · obtain ⟨N, t, rfl, hN, ho⟩ := least_pos hneg
      have hi : inB (N : Int) 1 6 = true := inB_nat hN
      have c1 := least_is N s (leastI_t ho hi)
      have c2 := sleast_is N s (leastI_t ho hi)
      have hV := lowU_ok hN t (cub N)
      have hL := vokB_of hV
      have c3 := vk_is N (lowU N t (cub N)) hV
      have cv : ∀ k : Nat, k ≤ N → ∀ w : World, Calls Try.prog 19 #[.int .i64 N, .string s, .int .i64 k, .int .i64 ((N : Int) - k), .int .i64 N] w fun e w' => ∃ v : Int, e = .returned (.int .i64 v) ∧ lowU N t (cub N) ≤ v ∧ w.grownBy w' none := fun k hk w => by
        have e : (N : Int) - k = ((N - k : Nat) : Int) := by omega
        rw [e]
        exact (val_is N s k ((N - k : Nat) : Int) N rfl w).mono fun e w' ⟨h1, h2⟩ => ⟨_, h1, valI_low ho hN hk (Nat.sub_le N k) (Nat.le_refl N), h2⟩
      have c4 : 2 * N ≤ 6 → ∃ L2 : Int, L2 ≤ 2 * lowU N t (cub N) ∧ ∀ w : World, Calls Try.prog 16 #[.int .i64 (2 * (N : Int)), .string s] w fun e w' => e = .returned (.int .i64 L2) ∧ w.grownBy w' none := fun h6 => by
        refine ⟨_, low_twice t ⟨hN.1, h6⟩, fun w => ?_⟩
        have e : 2 * (N : Int) = ((2 * N : Nat) : Int) := by omega
        rw [e]
        exact least_is _ s (leastI_t ho (inB_nat ⟨by omega, h6⟩)) w
      have C4 := Lib.hid c4
      have CV := Lib.hid cv
      clear ho hi hV hneg c4 cv
      generalize lowU N t (cub N) = L at *
      have d0 : decide (L < 0) = false := decide_eq_false (by omega)
      go_wp2_with fail
      refine (c1 _).mono ?_
      rintro e w2 ⟨rfl, g2⟩
      clear c1
      go_wp2_with fail
      refine (c2 _).mono ?_
      rintro e w3 ⟨rfl, g3⟩
      clear c2
      go_wp2_with fail
      have gA := grownBy_trans g1 (grownBy_trans g2 g3)
      clear g1 g2 g3
      go_loopw [6] (fun i wr => ∃ k : Nat, k ≤ N + 1 ∧ i = .int .i64 k ∧ w.grownBy wr none) (fun i _ => N + 1 - (intOf i).toNat)
      case atStart => exact ⟨0, by omega, rfl, gA⟩
      case round =>
        obtain ⟨k, hk, rfl, hgr⟩ := hrel
        by_cases hlt : k ≤ N
        · go_wp2_with fail
          refine (CV.out k hlt _).mono ?_
          rintro e w4 ⟨v, rfl, hv, g4⟩
          have dv : decide (v < L) = false := decide_eq_false (by omega)
          go_wp2_with fail
          go_roundw
          case rel => exact ⟨k + 1, by omega, by go_num, grownBy_trans hgr g4⟩
          case measure => simp [intOf]; omega
        · obtain rfl : k = N + 1 := by omega
          by_cases h6 : 2 * N ≤ 6
          · obtain ⟨L2, hL2, c4⟩ := C4.out h6
            have d6 : decide ((6 : Int) < 2 * (N : Int)) = false := decide_eq_false (by omega)
            have d7 : decide (L2 ≤ 2 * L) = true := decide_eq_true hL2
            go_wp2_with (go_at_call 20; refine (c3 _).mono ?_; rintro e w5 ⟨rfl, rfl⟩)
            refine (c4 _).mono ?_
            rintro e w6 ⟨rfl, g6⟩
            clear c4
            go_wp2_with fail
            go_ret
            exact ⟨rfl, below_of (grownBy_trans hgr g6)⟩
          · have d6 : decide ((6 : Int) < 2 * (N : Int)) = true := decide_eq_true (by omega)
            go_wp2_with (go_at_call 20; refine (c3 _).mono ?_; rintro e w5 ⟨rfl, rfl⟩)
            go_ret
            exact ⟨rfl, below_of hgr⟩

end Go.Proofs.Ytkkmoaenlnibiaa
