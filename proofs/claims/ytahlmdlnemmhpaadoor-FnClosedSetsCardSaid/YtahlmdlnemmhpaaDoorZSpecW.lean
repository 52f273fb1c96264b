/-
  What the model's ChainWithin answers. No condition.
-/
import Derived.Test.YtahlmdlnemmhpaaDoorZWith
namespace Go.Proofs.YtahlmdlnemmhpaaDoor
open Go.RowKit

theorem w64_pw {k : Nat} (h : k ≤ 6) : wrap64 (2 ^ k) = (2 : Int) ^ k := by
  obtain rfl | rfl | rfl | rfl | rfl | rfl | rfl : k = 0 ∨ k = 1 ∨ k = 2 ∨ k = 3 ∨ k = 4 ∨ k = 5 ∨ k = 6 := by omega
  all_goals decide +kernel
theorem div_le {N M v : Nat} (hm : 1 ≤ M) (hv : v ≤ M) : v * N / M ≤ N := by
  rw [Nat.div_le_iff_le_mul_add_pred (by omega)]
  have := Nat.mul_le_mul_right N hv
  omega
theorem withN_lt {N M : Nat} (hm : 1 ≤ M) : ∀ v, v ≤ M + 1 → withN N M v < 2 ^ (N + 1) := by
  intro v
  induction v with
  | zero => intro _; exact Nat.two_pow_pos _
  | succ v ih =>
    intro hv
    unfold withN
    exact or_lt (ih (by omega)) (Nat.pow_lt_pow_right (by omega) (by have := div_le (N := N) hm (show v ≤ M by omega); omega))

set_option maxHeartbeats 1000000 in
theorem swith_no (n m : Int) (w : World) (h : inB n 1 6 = false ∨ (inB n 1 6 = true ∧ inB m 1 n = false)) :
    Calls Tryd.prog 28 #[.int .i64 n, .int .i64 m] w fun e w' => e = .returned (.int .i64 (-1)) ∧ w = w' := by
  have cn := in_any n 1 6 w
  have cm := in_any m 1 n w
  rcases h with h | ⟨h, h'⟩
  · rw [h] at cn
    clear cm h
    go_enter Tryd.func28, Tryd.ntmps28
    go_wp2_with (go_at_call 45; refine cn.mono ?_; rintro e w' ⟨rfl, rfl⟩)
    go_ret
    exact ⟨rfl, rfl⟩
  · rw [h] at cn
    rw [h'] at cm
    clear h h'
    go_enter Tryd.func28, Tryd.ntmps28
    go_wp2_with (go_at_call 45; first
      | ((with_reducible refine cn.mono ?_); clear cn; rintro e w' ⟨rfl, rfl⟩)
      | ((with_reducible refine cm.mono ?_); clear cm; rintro e w' ⟨rfl, rfl⟩))
    go_ret
    exact ⟨rfl, rfl⟩

set_option maxHeartbeats 1000000 in
theorem swith_rest (N M : Nat) (hn : 1 ≤ N ∧ N ≤ 6) (hm : 1 ≤ M ∧ M ≤ N) (hd : ¬ N % M = 0) (w : World) :
    Calls Tryd.prog 28 #[.int .i64 N, .int .i64 M] w fun e w' => e = .returned (.int .i64 (-1)) ∧ w = w' := by
  have cn := in_any (N : Int) 1 6 w
  rw [inB_t (by omega)] at cn
  have cm := in_any (M : Int) 1 (N : Int) w
  rw [inB_t (by omega)] at cm
  have d1 : ((N : Int) % (M : Int) == 0) = false := by rw [beq_eq_false_iff_ne]; intro h; exact hd (by exact_mod_cast h)
  have d2 : ((N : Int) % (M : Int) != 0) = true := by simp [bne, d1]
  clear hd
  go_enter Tryd.func28, Tryd.ntmps28
  go_wp2_with (go_at_call 45; first
    | ((with_reducible refine cn.mono ?_); clear cn; rintro e w' ⟨rfl, rfl⟩)
    | ((with_reducible refine cm.mono ?_); clear cm; rintro e w' ⟨rfl, rfl⟩))
  go_ret
  exact ⟨rfl, rfl⟩

set_option maxHeartbeats 1000000 in
theorem swith_yes (N M : Nat) (hn : 1 ≤ N ∧ N ≤ 6) (hm : 1 ≤ M ∧ M ≤ N) (hd : N % M = 0) (w : World) :
    Calls Tryd.prog 28 #[.int .i64 N, .int .i64 M] w fun e w' => e = .returned (.int .i64 ((withinN N M : Nat) : Int)) ∧ w = w' := by
  have cn := in_any (N : Int) 1 6 w
  rw [inB_t (by omega)] at cn
  have cm := in_any (M : Int) 1 (N : Int) w
  rw [inB_t (by omega)] at cm
  have d1 : ((N : Int) % (M : Int) == 0) = true := by rw [beq_iff_eq]; exact_mod_cast hd
  have d2 : ((N : Int) % (M : Int) != 0) = false := by simp [bne, d1]
  have p7 := Lib.hid (pow_le7 hn.2)
  clear hd
  go_enter Tryd.func28, Tryd.ntmps28
  go_wp2_with (go_at_call 45; first
    | ((with_reducible refine cn.mono ?_); clear cn; rintro e w' ⟨rfl, rfl⟩)
    | ((with_reducible refine cm.mono ?_); clear cm; rintro e w' ⟨rfl, rfl⟩))
  clear d1 d2
  go_loopw [5, 6] (fun s i wr => ∃ v : Nat, v ≤ M + 1 ∧ i = .int .i64 v ∧ s = .int .i64 ((withN N M v : Nat) : Int) ∧ w = wr) (fun _ i _ => M + 1 - (intOf i).toNat)
  case atStart => exact ⟨0, by omega, rfl, rfl, rfl⟩
  case round =>
    obtain ⟨v, hv, rfl, rfl, rfl⟩ := hrel
    by_cases hlt : v < M + 1
    · have hq := div_le (N := N) hm.1 (show v ≤ M by omega)
      have hmul : v * N ≤ 36 := Nat.mul_le_mul (show v ≤ 6 by omega) hn.2
      have hdv : (v : Int) * (N : Int) / (M : Int) = ((v * N / M : Nat) : Int) := by rw [Int.natCast_ediv, Int.natCast_mul]
      have hdt : ((v : Int) * (N : Int)).tdiv (M : Int) = ((v * N / M : Nat) : Int) := by rw [Int.tdiv_eq_ediv_of_nonneg (by rw [← Int.natCast_mul]; omega), hdv]
      have hsh := w64_pw (show v * N / M ≤ 6 by omega)
      obtain ⟨q2, hq2⟩ : ∃ q2, q2 = withN N M (v + 1) := ⟨_, rfl⟩
      have hor : bits .or .i64 ((withN N M v : Nat) : Int) ((2 : Int) ^ (v * N / M)) = (q2 : Int) := by
        rw [hq2, show withN N M (v + 1) = withN N M v ||| 2 ^ (v * N / M) from rfl, show (2 : Int) ^ (v * N / M) = ((2 ^ (v * N / M) : Nat) : Int) by rw [Int.natCast_pow]; rfl]
        have := withN_lt (N := N) hm.1 v hv
        have := p7.out
        exact or64 (by omega) (Nat.pow_lt_pow_right (by omega) (by omega))
      have hz := Lib.hid hq2
      have hmi : (v : Int) * (N : Int) ≤ 36 ∧ 0 ≤ (v : Int) * (N : Int) := by rw [← Int.natCast_mul]; omega
      generalize withN N M v = q at *
      generalize v * N / M = k at *
      clear hq2 hmul
      go_wp2_with fail
      go_roundw
      case rel => exact ⟨v + 1, by omega, by go_num, congrArg (fun z : Nat => Value.int .i64 (z : Int)) hz.out, trivial⟩
      case measure => simp [intOf]; omega
    · obtain rfl : v = M + 1 := by omega
      go_wp2
      go_ret
      exact ⟨rfl, rfl⟩

theorem swithin_chain (n m : Int) (w : World) :
    Calls Tryd.prog 28 #[.int .i64 n, .int .i64 m] w fun e w' => e = .returned (.int .i64 (withI n m)) ∧ w = w' := by
  cases hn : inB n 1 6
  · rw [withI_f (.inl hn)]; exact swith_no n m w (.inl hn)
  · have h1 := inB_of hn
    obtain ⟨N, rfl⟩ : ∃ N : Nat, n = (N : Int) := ⟨n.toNat, by omega⟩
    cases hm : inB m 1 (N : Int)
    · have h2 := inB_not hm
      have : withI (N : Int) m = -1 := by
        cases h6 : inB m 1 6
        · exact withI_f (.inr (.inl h6))
        · have h3 := inB_of h6
          obtain ⟨M, rfl⟩ : ∃ M : Nat, m = (M : Int) := ⟨m.toNat, by omega⟩
          refine withI_f (.inr (.inr ?_))
          rw [Int.toNat_natCast, Int.toNat_natCast, Nat.mod_eq_of_lt (by omega)]
          omega
      rw [this]
      exact swith_no (N : Int) m w (.inr ⟨hn, hm⟩)
    · have h2 := inB_of hm
      obtain ⟨M, rfl⟩ : ∃ M : Nat, m = (M : Int) := ⟨m.toNat, by omega⟩
      by_cases hd : N % M = 0
      · rw [withI_t (by omega) (by omega) hd]; exact swith_yes N M (by omega) (by omega) hd w
      · rw [withI_f (.inr (.inr (by simpa using hd)))]; exact swith_rest N M (by omega) (by omega) hd w

end Go.Proofs.YtahlmdlnemmhpaaDoor
