/-
  What the model's MadeBy answers. No condition.
-/
import Derived.Test.YtahlmdlnemmhpaaDoorZSpec2
namespace Go.Proofs.YtahlmdlnemmhpaaDoor
open Go.RowKit

theorem nextN_lt {N m : Nat} (hm : m < 2 ^ (N + 1)) : ∀ k, nextN N m k < 2 ^ (N + 1) := by
  intro k
  induction k with
  | zero => exact hm
  | succ k ih =>
    unfold nextN
    split
    · exact or_lt ih (Nat.pow_lt_pow_right (by omega) (by have := folN_le N (k / (N + 1)) (k % (N + 1)); omega))
    · exact ih
theorem nextN_hit {N m a b : Nat} (hb : b < N + 1) (h1 : bit m a = true) (h2 : bit m b = true) : nextN N m (a * (N + 1) + b + 1) = nextN N m (a * (N + 1) + b) ||| 2 ^ folN N a b := by
  have e1 : (a * (N + 1) + b) / (N + 1) = a := by rw [Nat.mul_comm, Nat.mul_add_div (by omega), Nat.div_eq_of_lt hb, Nat.add_zero]
  have e2 : (a * (N + 1) + b) % (N + 1) = b := by rw [Nat.mul_comm, Nat.mul_add_mod, Nat.mod_eq_of_lt hb]
  show (if bit m ((a * (N + 1) + b) / (N + 1)) && bit m ((a * (N + 1) + b) % (N + 1)) then _ else _) = _
  rw [e1, e2, h1, h2]
  rfl
theorem nextN_miss {N m a b : Nat} (hb : b < N + 1) (h : bit m a = false ∨ bit m b = false) : nextN N m (a * (N + 1) + b + 1) = nextN N m (a * (N + 1) + b) := by
  have e1 : (a * (N + 1) + b) / (N + 1) = a := by rw [Nat.mul_comm, Nat.mul_add_div (by omega), Nat.div_eq_of_lt hb, Nat.add_zero]
  have e2 : (a * (N + 1) + b) % (N + 1) = b := by rw [Nat.mul_comm, Nat.mul_add_mod, Nat.mod_eq_of_lt hb]
  show (if bit m ((a * (N + 1) + b) / (N + 1)) && bit m ((a * (N + 1) + b) % (N + 1)) then _ else _) = _
  rw [e1, e2]
  rcases h with h | h
  · rw [h]; rfl
  · rw [h, Bool.and_false]; rfl
theorem nextN_row (N m a : Nat) : nextN N m (a * (N + 1) + (N + 1)) = nextN N m ((a + 1) * (N + 1) + 0) := by rw [Nat.succ_mul]; rfl
theorem made_grow {N S m : Nat} (hN : 1 ≤ N ∧ N ≤ 6) (hm : m < 2 ^ (N + 1)) (h0 : bit m 0 = true) (he : madeF 8 N m = madeN N S) (hc : closN N m = false) :
    m < stepN N m ∧ stepN N m < 2 ^ (N + 1) ∧ bit (stepN N m) 0 = true ∧ madeF 8 N (stepN N m) = madeN N S := by
  have k1 := tab_of step_more hN hm
  have k3 := tab_of made_step hN hm
  rw [h0, hc] at k1 k3
  simp only [Bool.not_true, Bool.false_or, Bool.and_eq_true, decide_eq_true_eq, beq_iff_eq] at k1 k3
  exact ⟨k1.1.1, k1.1.2, k1.2, k3.trans he⟩
theorem made_end {N S m : Nat} (hN : 1 ≤ N ∧ N ≤ 6) (hm : m < 2 ^ (N + 1)) (he : madeF 8 N m = madeN N S) (hc : closN N m = true) : m = madeN N S := by
  have k := tab_of made_stop hN hm
  rw [hc] at k
  simp only [Bool.not_true, Bool.false_or, beq_iff_eq] at k
  exact k.symm.trans he
theorem w64_small {k : Nat} (h : k ≤ 6) : wrap64 (2 ^ k) = ((2 ^ k : Nat) : Int) := by
  obtain rfl | rfl | rfl | rfl | rfl | rfl | rfl : k = 0 ∨ k = 1 ∨ k = 2 ∨ k = 3 ∨ k = 4 ∨ k = 5 ∨ k = 6 := by omega
  all_goals decide +kernel

set_option maxHeartbeats 1000000 in
theorem smade_no (n s : Int) (w : World) (ho : okS n s = false) :
    Calls Tryd.prog 23 #[.int .i64 n, .int .i64 s] w fun e w' => e = .returned (.int .i64 (-1)) ∧ w = w' := by
  have cn := in_any n 1 6 w
  cases hi : inB n 1 6
  · rw [hi] at cn
    clear hi ho
    go_enter Tryd.func23, Tryd.ntmps23
    go_wp2_with (go_at_call 45; refine cn.mono ?_; rintro e w' ⟨rfl, rfl⟩)
    go_ret
    exact ⟨rfl, rfl⟩
  · have hb := inB_of hi
    obtain ⟨N, rfl⟩ : ∃ N : Nat, n = (N : Int) := ⟨n.toNat, by omega⟩
    have hN : 1 ≤ N ∧ N ≤ 6 := by omega
    rw [hi] at cn
    have p7 := pow_le7 hN.2
    have c2 := in_any s 0 (wrap64 (wrap64 (2 ^ (N + 1)) - 1)) w
    have hs : inB s 0 (wrap64 (wrap64 (2 ^ (N + 1)) - 1)) = false := by
      rw [(w64_pow hN.2).2]
      cases h : inB s 0 (((2 ^ (N + 1) : Nat) : Int) - 1)
      · rfl
      · have h1 := inB_of h
        obtain ⟨S, rfl⟩ : ∃ S : Nat, s = (S : Int) := ⟨s.toNat, by omega⟩
        rw [okS_nat hN (by omega)] at ho
        cases ho
    rw [hs] at c2
    clear hi hb hs p7 ho
    go_enter Tryd.func23, Tryd.ntmps23
    go_wp2_with (go_at_call 45; first
      | ((with_reducible refine cn.mono ?_); clear cn; rintro e w' ⟨rfl, rfl⟩)
      | ((with_reducible refine c2.mono ?_); clear c2; rintro e w' ⟨rfl, rfl⟩))
    go_ret
    exact ⟨rfl, rfl⟩

set_option maxHeartbeats 4000000 in
theorem smade_yes (N S : Nat) (hN : 1 ≤ N ∧ N ≤ 6) (hS : S < 2 ^ (N + 1)) (w : World) :
    Calls Tryd.prog 23 #[.int .i64 N, .int .i64 S] w fun e w' => e = .returned (.int .i64 ((madeN N S : Nat) : Int)) ∧ w = w' := by
  have cn := in_any (N : Int) 1 6 w
  rw [inB_t (by omega)] at cn
  have p7 := pow_le7 hN.2
  have c2 : Calls Tryd.prog 45 #[.int .i64 S, .int .i64 0, .int .i64 (wrap64 (wrap64 (2 ^ (N + 1)) - 1))] w fun e w' => e = .returned (.bool true) ∧ w = w' := by
    have := in_any (S : Int) 0 (wrap64 (wrap64 (2 ^ (N + 1)) - 1)) w
    rw [inB_t (by rw [(w64_pow hN.2).2]; omega)] at this
    exact this
  have ho1 : bits .or .i64 (S : Int) 1 = ((S ||| 1 : Nat) : Int) := or64 (a := S) (b := 1) (by omega) (by decide)
  have hs := tab_of made_start hN hS
  simp only [Bool.and_eq_true, decide_eq_true_eq] at hs
  have cc : ∀ (k : Nat) (w : World), k < 2 ^ (N + 1) → Calls Tryd.prog 14 #[.int .i64 N, .int .i64 k] w fun e w' => e = .returned (.bool (closN N k)) ∧ w = w' := fun k w hk => by
    have := sclosed_any (N : Int) (k : Int) w
    rw [closI_nat hN hk, ← closN_nat hN hk] at this
    exact this
  have Hs := Lib.hid hs
  have P7 := Lib.hid p7
  clear hs hS p7
  go_enter Tryd.func23, Tryd.ntmps23
  go_wp2_with (go_at_call 45; first
    | ((with_reducible refine cn.mono ?_); clear cn; rintro e w' ⟨rfl, rfl⟩)
    | ((with_reducible refine c2.mono ?_); clear c2; rintro e w' ⟨rfl, rfl⟩))
  clear ho1
  go_loopw [5] (fun v wr => ∃ m : Nat, v = .int .i64 m ∧ (m < 2 ^ (N + 1) ∧ bit m 0 = true ∧ madeF 8 N m = madeN N S) ∧ w = wr) (fun v _ => 128 - (intOf v).toNat)
  case atStart => exact ⟨S ||| 1, rfl, ⟨Hs.out.2, Hs.out.1, rfl⟩, rfl⟩
  case round =>
    obtain ⟨m, rfl, hm, rfl⟩ := hrel
    have c3 := cc m w hm.1
    have Hm := Lib.hid hm
    clear hm cc
    cases hc : closN N m
    · rw [hc] at c3
      have Hc := Lib.hid hc
      have hm7 : m < 128 := by have := Hm.out.1; have := P7.out; omega
      clear hc
      go_wp2_with fail
      refine c3.mono ?_
      rintro e w2 ⟨rfl, rfl⟩
      clear c3
      go_wp2_with fail
      go_loopw [6, 7] (fun v i wr => ∃ a : Nat, a ≤ N + 1 ∧ i = .int .i64 a ∧ v = .int .i64 ((nextN N m (a * (N + 1) + 0) : Nat) : Int) ∧ w = wr) (fun _ i _ => N + 1 - (intOf i).toNat)
      case atStart => exact ⟨0, by omega, rfl, by rw [Nat.zero_mul]; rfl, rfl⟩
      case round =>
        obtain ⟨a, ha, rfl, rfl, rfl⟩ := hrel
        by_cases hlt : a < N + 1
        · go_wp2_with fail
          go_loopw [6, 8] (fun v i wr => ∃ b : Nat, b ≤ N + 1 ∧ i = .int .i64 b ∧ v = .int .i64 ((nextN N m (a * (N + 1) + b) : Nat) : Int) ∧ w = wr) (fun _ i _ => N + 1 - (intOf i).toNat)
          case atStart => exact ⟨0, by omega, rfl, rfl, rfl⟩
          case round =>
            obtain ⟨b, hb, rfl, rfl, rfl⟩ := hrel
            by_cases hltb : b < N + 1
            · have hnl : nextN N m (a * (N + 1) + b) < 128 := by have := nextN_lt Hm.out.1 (a * (N + 1) + b); have := P7.out; omega
              cases hba : bit m a
              · obtain ⟨t1, t2⟩ := shr_f hba
                have hx := Lib.hid (nextN_miss hltb (.inl hba))
                clear hba
                generalize nextN N m (a * (N + 1) + b) = q at *
                go_wp2_with fail
                go_roundw
                case rel => exact ⟨b + 1, by omega, by go_num, congrArg (fun z : Nat => Value.int .i64 (z : Int)) hx.out.symm, trivial⟩
                case measure => simp [intOf]; omega
              · obtain ⟨t1, t2⟩ := shr_t hba
                cases hbb : bit m b
                · obtain ⟨u1, u2⟩ := shr_f hbb
                  have hx := Lib.hid (nextN_miss (a := a) hltb (.inr hbb))
                  clear hba hbb
                  generalize nextN N m (a * (N + 1) + b) = q at *
                  go_wp2_with fail
                  go_roundw
                  case rel => exact ⟨b + 1, by omega, by go_num, congrArg (fun z : Nat => Value.int .i64 (z : Int)) hx.out.symm, trivial⟩
                  case measure => simp [intOf]; omega
                · obtain ⟨u1, u2⟩ := shr_t hbb
                  have hx := nextN_hit hltb hba hbb
                  have hmn := min_fol (b := b) (show a ≤ N by omega)
                  have hfn := folN_le N a b
                  have hsh := w64_small (show folN N a b ≤ 6 by omega)
                  obtain ⟨q2, hq2⟩ : ∃ q2, q2 = nextN N m (a * (N + 1) + (b + 1)) := ⟨_, rfl⟩
                  have hor : bits .or .i64 ((nextN N m (a * (N + 1) + b) : Nat) : Int) ((2 : Int) ^ folN N a b) = (q2 : Int) := by
                    rw [hq2, show nextN N m (a * (N + 1) + (b + 1)) = nextN N m (a * (N + 1) + b) ||| 2 ^ folN N a b from hx, show (2 : Int) ^ folN N a b = ((2 ^ folN N a b : Nat) : Int) by rw [Int.natCast_pow]; rfl]
                    exact or64 (by omega) (pow62 hN.2 hfn)
                  rw [Int.natCast_pow] at hsh
                  have hz := Lib.hid hq2
                  clear hba hbb hx hq2
                  generalize nextN N m (a * (N + 1) + b) = q at *
                  generalize folN N a b = f at *
                  go_wp2_with fail
                  go_roundw
                  case rel => exact ⟨b + 1, by omega, by go_num, congrArg (fun z : Nat => Value.int .i64 (z : Int)) hz.out, trivial⟩
                  case measure => simp [intOf]; omega
            · obtain rfl : b = N + 1 := by omega
              have hz := Lib.hid (nextN_row N m a)
              generalize nextN N m (a * (N + 1) + (N + 1)) = q at *
              go_wp2_with fail
              go_roundw
              case rel => exact ⟨a + 1, by omega, by go_num, congrArg (fun z : Nat => Value.int .i64 (z : Int)) hz.out, trivial⟩
              case measure => simp [intOf]; omega
        · obtain rfl : a = N + 1 := by omega
          have hz := Lib.hid (made_grow (S := S) hN Hm.out.1 Hm.out.2.1 Hm.out.2.2 Hc.out)
          have hq : Hid (nextN N m ((N + 1) * (N + 1) + 0) = stepN N m) := Lib.hid rfl
          generalize nextN N m ((N + 1) * (N + 1) + 0) = q at *
          go_wp2_with fail
          go_roundw
          case rel => exact ⟨stepN N m, congrArg (fun z : Nat => Value.int .i64 (z : Int)) hq.out, hz.out.2, trivial⟩
          case measure => have := hz.out.1; have := hq.out; simp [intOf]; omega
    · rw [hc] at c3
      have hz := Lib.hid (made_end hN Hm.out.1 Hm.out.2.2 hc)
      clear hc
      go_wp2_with fail
      refine c3.mono ?_
      rintro e w2 ⟨rfl, rfl⟩
      clear c3
      go_wp2_with fail
      go_ret
      exact ⟨by rw [← hz.out]; rfl, rfl⟩

theorem smade_any (n s : Int) (w : World) :
    Calls Tryd.prog 23 #[.int .i64 n, .int .i64 s] w fun e w' => e = .returned (.int .i64 (madeI n s)) ∧ w = w' := by
  unfold madeI
  cases ho : okS n s
  · exact smade_no n s w ho
  · obtain ⟨N, S, rfl, rfl, h1, h6, hS⟩ := okS_of ho
    have := smade_yes N S ⟨h1, h6⟩ hS w
    simpa using this

end Go.Proofs.YtahlmdlnemmhpaaDoor
