/-
  The walk of the law FnAgainstOf.
-/
import Derived.Test.YtkkmoaenlnibiaaAIs
namespace Go.Proofs.Ytkkmoaenlnibiaa
open Go.RowKit

set_option maxRecDepth 100000 in
set_option maxHeartbeats 2000000 in
theorem FnAgainstOf_walk (a0 : Option Addr) (len0 cap0 : Nat) (z0 : List Int) (w : World) (w0 : IsRow .u8 w a0 len0 cap0 z0) :
    Calls Try.prog 5 #[.slice a0 len0 cap0] w fun e w' => e = .returned (.bool true) ∧ Below w.heap.size w w' := by
  by_cases hl : (1048576 : Int) < (len0 : Int)
  · clear w0
    go_enter Try.func5, Try.ntmps5
    go_wp2_with fail
    go_ret
    exact ⟨rfl, Below.refl _ _⟩
  · go_enter Try.func5, Try.ntmps5
    go_wp2_with fail
    refine (DrawAgainstOf_any _ _ _ _ _ w0).mono ?_
    rintro e w1 ⟨n, s, rfl, hs, n1, n2, g1⟩
    clear w0
    have c1 := agof_any n s
    have c2 := sagof_any n s
    cases hag : agI n (bl s) with
    | none =>
      rw [agV_n hag] at c1 c2
      cases ha : alwB n (bl s)
      · have c3 := always_is n s ha
        have hn := ag_neg hag ha
        have c4 := sleast_is n s (least_m1 hn)
        clear hag ha hn
        go_wp2_with fail
        refine (c1 _).mono ?_
        rintro e w2 ⟨rfl, g2⟩
        clear c1
        go_wp2_with fail
        refine (c2 _).mono ?_
        rintro e w3 ⟨rfl, g3⟩
        clear c2
        go_wp2_with fail
        refine (c3 _).mono ?_
        rintro e w4 ⟨rfl, g4⟩
        clear c3
        go_wp2_with fail
        refine (c4 _).mono ?_
        rintro e w5 ⟨rfl, g5⟩
        clear c4
        go_wp2_with (go_at_call 18; refine (alive_any _).mono ?_; rintro e w' ⟨rfl, rfl⟩)
        go_ret
        exact ⟨rfl, below_of (grownBy_trans g1 (grownBy_trans g2 (grownBy_trans g3 (grownBy_trans g4 g5))))⟩
      · have c3 := always_is n s ha
        clear hag ha
        go_wp2_with fail
        refine (c1 _).mono ?_
        rintro e w2 ⟨rfl, g2⟩
        clear c1
        go_wp2_with fail
        refine (c2 _).mono ?_
        rintro e w3 ⟨rfl, g3⟩
        clear c2
        go_wp2_with fail
        refine (c3 _).mono ?_
        rintro e w4 ⟨rfl, g4⟩
        clear c3
        go_wp2_with (go_at_call 18; refine (alive_any _).mono ?_; rintro e w' ⟨rfl, rfl⟩)
        go_ret
        exact ⟨rfl, below_of (grownBy_trans g1 (grownBy_trans g2 (grownBy_trans g3 g4)))⟩
    | some k =>
      obtain ⟨N, t, rfl, hN, ho, hN2⟩ := ag_pos hag
      rw [agV_s hag] at c1 c2
      obtain ⟨hk, hne⟩ := agN_some hN2
      have hle := atK_le hN t k
      have c3 := val_is N s (tA N k) (tB N k) (tC N k) (valI_t ho (tri_ok hN k))
      have c4 := always_is N s (v := false) (by rw [alwB_t ho (inB_nat hN)]; exact alwT_no hk hne)
      have d1 : decide (0 ≤ t.val N (tA N k) (tB N k) (tC N k)) = true := decide_eq_true hle.1
      have d2 : decide (t.val N (tA N k) (tB N k) (tC N k) < (N : Int)) = true := decide_eq_true (by unfold atK at hne hle; omega)
      clear hag ho hN2 hk hne hle
      generalize t.val N (tA N k) (tB N k) (tC N k) = v at *
      go_wp2_with fail
      refine (c1 _).mono ?_
      rintro e w2 ⟨rfl, g2⟩
      clear c1
      go_wp2_with fail
      refine (c2 _).mono ?_
      rintro e w3 ⟨rfl, g3⟩
      clear c2
      go_wp2_with fail
      refine (c3 _).mono ?_
      rintro e w4 ⟨rfl, g4⟩
      clear c3
      go_wp2_with fail
      refine (c4 _).mono ?_
      rintro e w5 ⟨rfl, g5⟩
      clear c4
      go_wp2_with fail
      go_ret
      exact ⟨rfl, below_of (grownBy_trans g1 (grownBy_trans g2 (grownBy_trans g3 (grownBy_trans g4 g5))))⟩

end Go.Proofs.Ytkkmoaenlnibiaa
