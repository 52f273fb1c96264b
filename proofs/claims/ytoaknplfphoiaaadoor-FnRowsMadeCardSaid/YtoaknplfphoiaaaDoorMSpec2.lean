/-
  The model's CountSayable. No condition.
-/
import Derived.Test.YtoaknplfphoiaaaDoorMSpec
namespace Go.Proofs.YtoaknplfphoiaaaDoor
open Go.RowKit

def scnI (n : Int) : Int := if inB n 1 6 = true then (sayN n.toNat : Int) else -1
theorem scnI_o {n : Int} (h : inB n 1 6 = false) : scnI n = -1 := if_neg (by rw [h]; simp)
theorem scnI_t {N : Nat} (h : 1 ≤ N ∧ N ≤ 6) : scnI N = (cntS N (N + 1) : Int) := by unfold scnI; rw [if_pos (inB_nat h)]; rfl
theorem cnt_tab : ([1, 2, 3, 4, 5, 6].all fun n => (List.range (n + 2)).all fun v => decide (cntS n v ≤ 10000) && decide (1 ≤ cntS n v)) = true := by decide +kernel
theorem cntS_le {n v : Nat} (hn : 1 ≤ n ∧ n ≤ 6) (hv : v ≤ n + 1) : 1 ≤ cntS n v ∧ cntS n v ≤ 10000 := by
  have h := List.all_eq_true.1 cnt_tab n (by simp; omega)
  have k := List.all_eq_true.1 h v (List.mem_range.2 (by omega))
  rw [Bool.and_eq_true] at k
  exact ⟨of_decide_eq_true k.2, of_decide_eq_true k.1⟩

set_option maxRecDepth 100000 in
set_option maxHeartbeats 4000000 in
theorem scnt_any (n : Int) (w : World) :
    Calls Tryd.prog 22 #[.int .i64 n] w fun e w' => e = .returned (.int .i64 (scnI n)) ∧ w.grownBy w' none := by
  have ci := fun w => in_any n 1 6 w
  cases hi : inB n 1 6
  · rw [scnI_o hi]
    rw [hi] at ci
    clear hi
    go_enter Tryd.func22, Tryd.ntmps22
    go_wp2_with (go_at_call 44; refine (ci _).mono ?_; rintro e w' ⟨rfl, rfl⟩)
    go_ret
    exact ⟨rfl, grownBy_refl _ _⟩
  · rw [hi] at ci
    obtain ⟨N, rfl, hN⟩ := nat_of hi
    rw [scnI_t hN]
    clear hi
    go_enter Tryd.func22, Tryd.ntmps22
    go_wp2_with (go_at_call 44; refine (ci _).mono ?_; rintro e w' ⟨rfl, rfl⟩)
    clear ci
    go_loopw [3, 4] (fun s i wr => ∃ k : Nat, k ≤ N + 1 ∧ i = .int .i64 k ∧ s = .int .i64 (cntS N k : Int) ∧ w.grownBy wr none) (fun _ i _ => N + 1 - (intOf i).toNat)
    case atStart => exact ⟨0, by omega, rfl, rfl, grownBy_refl _ _⟩
    case round =>
      obtain ⟨k, hk, rfl, rfl, hgr⟩ := hrel
      by_cases hlt : k ≤ N
      · have hG : 0 < Nat.gcd k N := Nat.gcd_pos_of_pos_right _ (by omega)
        have cg : ∀ w, Calls Tryd.prog 43 #[.int .i64 k, .int .i64 N] w fun e w' => e = .returned (.int .i64 ((Nat.gcd k N : Nat) : Int)) ∧ w = w' := fun w => common_any k N (by omega) (by omega) w
        have b1 := cntS_le hN (v := k) (by omega)
        have b2 := cntS_le hN (v := k + 1) (by omega)
        have hnx : Hid (cntS N (k + 1) = cntS N k * (N / Nat.gcd k N + 1)) := rfl
        have hdv : N / Nat.gcd k N ≤ N := Nat.div_le_self _ _
        have hdd : ((N : Int) / ((Nat.gcd k N : Nat) : Int)) = ((N / Nat.gcd k N : Nat) : Int) := rfl
        generalize Nat.gcd k N = G at *
        have hG0 : ¬ ((G : Int) = 0) := by omega
        generalize N / G = D at *
        have hmul : ((cntS N k : Nat) : Int) * ((D : Int) + 1) = ((cntS N (k + 1) : Nat) : Int) := by rw [hnx.out]; simp
        generalize hC : cntS N (k + 1) = C' at *
        have HC := Lib.hid hC
        clear hC
        generalize cntS N k = C at *
        go_wp2_with (go_at_call 43; refine (cg _).mono ?_; rintro e w' ⟨rfl, rfl⟩)
        go_roundw
        case rel => exact ⟨k + 1, by omega, by go_num, by rw [HC.out], hgr⟩
        case measure => simp [intOf]; omega
      · obtain rfl : k = N + 1 := by omega
        go_wp2_with fail
        go_ret
        exact ⟨rfl, hgr⟩

end Go.Proofs.YtoaknplfphoiaaaDoor
