/-
  The walk of the law FnCountSayable, out of what the functions answer.
-/
import Derived.Test.YtoaknplfphoiaaaDoorMC
import Derived.Test.YtoaknplfphoiaaaDoorDraw4
namespace Go.Proofs.YtoaknplfphoiaaaDoor
open Go.RowKit

theorem DrawCountSayable_any (a : Option Addr) (len cap : Nat) (zs : List Int) (w : World) (h : IsRow .u8 w a len cap zs) :
    Calls Tryd.prog 20 #[.slice a len cap] w fun e w' => ∃ n : Int, e = .returned (.int .i64 n) ∧ -1 ≤ n ∧ n ≤ 7 ∧ w.grownBy w' none := by
  go_enter Tryd.func20, Tryd.ntmps20
  go_wp2_with fail
  refine (open_draw a len cap zs _ h).mono ?_
  rintro e w1 ⟨rfl, hr1, hg1⟩
  clear h
  go_wp2_with fail
  refine (steps_draw _ _ _ _ hr1 (by omega) (by omega) (by omega)).mono ?_
  rintro e w2 ⟨n, rfl, n1, n2, hr2, hg2⟩
  go_wp2_with fail
  go_ret
  exact ⟨n, rfl, n1, n2, grownBy_own hg1 hg2⟩
def powS (n : Nat) : Nat → Nat
  | 0 => 4
  | k + 1 => powS n k * (n + 1)
theorem pow_tab : ([1, 2, 3, 4, 5, 6].all fun n => (List.range 6).all fun k => decide (powS n k ≤ 100000)) = true := by decide +kernel
theorem powS_le {n k : Nat} (hn : 1 ≤ n ∧ n ≤ 6) (hk : k ≤ 5) : powS n k ≤ 100000 := by
  have h := List.all_eq_true.1 pow_tab n (by simp; omega)
  exact of_decide_eq_true (List.all_eq_true.1 h k (List.mem_range.2 (by omega)))
/-- For prime steps it is the power. -/
theorem scn_prime {n : Nat} (h : n = 2 ∨ n = 3 ∨ n = 5) : cntS n (n + 1) = powS n (n - 1) := by
  rcases h with rfl | rfl | rfl <;> decide +kernel
theorem scn_lits : scnI 1 = 4 ∧ scnI 2 = 12 ∧ scnI 3 = 64 ∧ scnI 4 = 300 := by decide +kernel
theorem scnI_of {n : Int} (h : ¬ scnI n < 0) : ∃ N : Nat, n = N ∧ (1 ≤ N ∧ N ≤ 6) := by
  cases hi : inB n 1 6
  · rw [scnI_o hi] at h; omega
  · exact nat_of hi
theorem scnI_neg {n : Int} (h : scnI n < 0) : scnI n = -1 := by
  cases hi : inB n 1 6
  · exact scnI_o hi
  · obtain ⟨N, rfl, hN⟩ := nat_of hi
    rw [scnI_t hN] at h
    omega

set_option maxRecDepth 100000 in
set_option maxHeartbeats 4000000 in
theorem FnCountSayable_of (H : ScntC) (a0 : Option Addr) (len0 cap0 : Nat) (z0 : List Int) (w : World) (w0 : IsRow .u8 w a0 len0 cap0 z0) (hT : TzAt w) :
    Calls Tryd.prog 5 #[.slice a0 len0 cap0] w fun e w' => e = .returned (.bool true) ∧ Below w.heap.size w w' := by
  have HT := Lib.hid hT
  clear hT
  by_cases hl : (1048576 : Int) < (len0 : Int)
  · clear w0
    go_enter Tryd.func5, Tryd.ntmps5
    go_wp2_with fail
    go_ret
    exact ⟨rfl, Below.refl _ _⟩
  · go_enter Tryd.func5, Tryd.ntmps5
    go_wp2_with fail
    refine (DrawCountSayable_any _ _ _ _ _ w0).mono ?_
    rintro e w1 ⟨n, rfl, n1, n2, g1⟩
    clear w0
    by_cases hneg : scnI n < 0
    · have c1 := scnt_v H n (scnI_neg hneg)
      have c2 : ∀ w, Calls Tryd.prog 22 #[.int .i64 n] w fun e w' => e = .returned (.int .i64 (-1)) ∧ w.grownBy w' none := fun w => by rw [← scnI_neg hneg]; exact scnt_any n w
      clear hneg
      go_wp2_with fail
      refine (c1 _ (HT.out.grown g1)).mono ?_
      rintro e w2 ⟨rfl, g2⟩
      clear c1
      go_wp2_with fail
      refine (c2 _).mono ?_
      rintro e w3 ⟨rfl, g3⟩
      clear c2
      go_wp2_with (go_at_call 13; refine (alive_any _).mono ?_; rintro e w' ⟨rfl, rfl⟩)
      go_ret
      exact ⟨rfl, below_of (grownBy_trans g1 (grownBy_trans g2 g3))⟩
    · obtain ⟨N, rfl, hN⟩ := scnI_of hneg
      have c1 := scnt_v H N (scnI_t hN)
      have c2 : ∀ w, Calls Tryd.prog 22 #[.int .i64 N] w fun e w' => e = .returned (.int .i64 (cntS N (N + 1))) ∧ w.grownBy w' none := fun w => by rw [← scnI_t hN]; exact scnt_any N w
      obtain ⟨l1, l2, l3, l4⟩ := scn_lits
      have d1 := scnt_v H 1 l1
      have d2 := scnt_v H 2 l2
      have d3 := scnt_v H 3 l3
      have d4 := scnt_v H 4 l4
      have hpr : Hid (N = 2 ∨ N = 3 ∨ N = 5 → cntS N (N + 1) = powS N (N - 1)) := scn_prime
      have b1 := cntS_le hN (v := N + 1) (Nat.le_refl _)
      clear hneg l1 l2 l3 l4
      generalize cntS N (N + 1) = M at *
      have hMn : ((M : Int) != (M : Int)) = false := by simp
      go_wp2_with fail
      refine (c1 _ (HT.out.grown g1)).mono ?_
      rintro e w2 ⟨rfl, g2⟩
      clear c1
      go_wp2_with fail
      refine (c2 _).mono ?_
      rintro e w3 ⟨rfl, g3⟩
      clear c2
      replace g1 := grownBy_trans g1 (grownBy_trans g2 g3)
      clear g2 g3
      go_wp2_with fail
      go_loopw [5, 6] (fun p i wr => ∃ k : Nat, k + 1 ≤ N ∧ i = .int .i64 ((k : Int) + 1) ∧ p = .int .i64 (powS N k : Int) ∧ w3.grownBy wr none) (fun _ i _ => N - (intOf i).toNat)
      case atStart => exact ⟨0, by omega, rfl, rfl, grownBy_refl _ _⟩
      case round =>
        obtain ⟨k, hk, rfl, rfl, hgr⟩ := hrel
        by_cases hlt : k + 1 < N
        · have b2 := powS_le hN (k := k + 1) (by omega)
          have hmul : ((powS N k : Nat) : Int) * ((N : Int) + 1) = ((powS N (k + 1) : Nat) : Int) := by show _ = (((powS N k * (N + 1) : Nat)) : Int); simp
          generalize hC : powS N (k + 1) = C' at *
          have HC := Lib.hid hC
          clear hC
          generalize powS N k = C at *
          go_wp2_with fail
          go_roundw
          case rel => exact ⟨k + 1, by omega, by go_num, by rw [HC.out], hgr⟩
          case measure => simp [intOf]; omega
        · have hkN : k = N - 1 := by omega
          have hp := powS_le hN (k := k) (by omega)
          have hpr2 : Hid (N = 2 ∨ N = 3 ∨ N = 5 → M = powS N k) := fun h => by rw [hkN]; exact hpr.out h
          clear hpr hkN
          generalize powS N k = P at *
          by_cases hq : N = 2 ∨ N = 3 ∨ N = 5
          · have hMP : ((M : Int) == (P : Int)) = true := by rw [beq_iff_eq, hpr2.out hq]
            clear hpr2
            rcases hq with rfl | rfl | rfl
            all_goals
              go_wp2_with fail
              refine (d1 _ (HT.out.grown (grownBy_trans g1 hgr))).mono ?_
              rintro e w4 ⟨rfl, g4⟩
              clear d1
              go_wp2_with fail
              refine (d2 _ (HT.out.grown (grownBy_trans (grownBy_trans g1 hgr) g4))).mono ?_
              rintro e w5 ⟨rfl, g5⟩
              clear d2
              go_wp2_with fail
              refine (d3 _ (HT.out.grown (grownBy_trans (grownBy_trans g1 hgr) (grownBy_trans g4 g5)))).mono ?_
              rintro e w6 ⟨rfl, g6⟩
              clear d3
              go_wp2_with fail
              refine (d4 _ (HT.out.grown (grownBy_trans (grownBy_trans g1 hgr) (grownBy_trans (grownBy_trans g4 g5) g6)))).mono ?_
              rintro e w7 ⟨rfl, g7⟩
              clear d4
              go_wp2_with fail
              go_ret
              exact ⟨rfl, below_of (grownBy_trans (grownBy_trans g1 hgr) (grownBy_trans (grownBy_trans g4 g5) (grownBy_trans g6 g7)))⟩
          · have q1 : ((N : Int) == 2) = false := by rw [beq_eq_false_iff_ne]; omega
            have q2 : ((N : Int) == 3) = false := by rw [beq_eq_false_iff_ne]; omega
            have q3 : ((N : Int) == 5) = false := by rw [beq_eq_false_iff_ne]; omega
            clear hq hpr2
            go_wp2_with fail
            refine (d1 _ (HT.out.grown (grownBy_trans g1 hgr))).mono ?_
            rintro e w4 ⟨rfl, g4⟩
            clear d1
            go_wp2_with fail
            refine (d2 _ (HT.out.grown (grownBy_trans (grownBy_trans g1 hgr) g4))).mono ?_
            rintro e w5 ⟨rfl, g5⟩
            clear d2
            go_wp2_with fail
            refine (d3 _ (HT.out.grown (grownBy_trans (grownBy_trans g1 hgr) (grownBy_trans g4 g5)))).mono ?_
            rintro e w6 ⟨rfl, g6⟩
            clear d3
            go_wp2_with fail
            refine (d4 _ (HT.out.grown (grownBy_trans (grownBy_trans g1 hgr) (grownBy_trans (grownBy_trans g4 g5) g6)))).mono ?_
            rintro e w7 ⟨rfl, g7⟩
            clear d4
            go_wp2_with fail
            go_ret
            exact ⟨rfl, below_of (grownBy_trans (grownBy_trans g1 hgr) (grownBy_trans (grownBy_trans g4 g5) (grownBy_trans g6 g7)))⟩

end Go.Proofs.YtoaknplfphoiaaaDoor
