/-
  What the model's ClosedOk, StepsFor and ClosedSets answer. No condition.
-/
import Derived.Test.YtahlmdlnemmhpaaDoorZSpec
import Derived.Test.YtahlmdlnemmhpaaDoorZOk2
namespace Go.Proofs.YtahlmdlnemmhpaaDoor
open Go.RowKit

theorem even_facts {S : Nat} (h : bit S 0 = false) : ((S : Int) % 2 == 0) = true ∧ ((S : Int).tmod 2 == 0) = true := by
  have h1 : S % 2 = 0 := by
    rcases bit_cases S 0 with ⟨h', _⟩ | ⟨_, e⟩
    · rw [h] at h'; cases h'
    · simpa using e
  rw [Int.tmod_eq_emod_of_nonneg (by omega)]
  refine ⟨?_, ?_⟩ <;> (rw [beq_iff_eq]; omega)

set_option maxHeartbeats 1000000 in
theorem sclosed_any (n s : Int) (w : World) :
    Calls Tryd.prog 14 #[.int .i64 n, .int .i64 s] w fun e w' => e = .returned (.bool (closI n s)) ∧ w = w' := by
  have cn := in_any n 1 6 w
  cases hi : inB n 1 6
  · rw [hi] at cn
    rw [closI_f (okS_f (.inl hi))]
    clear hi
    go_enter Tryd.func14, Tryd.ntmps14
    go_wp2_with (go_at_call 45; refine cn.mono ?_; rintro e w' ⟨rfl, rfl⟩)
    go_ret
    exact ⟨rfl, rfl⟩
  · have hb := inB_of hi
    obtain ⟨N, rfl⟩ : ∃ N : Nat, n = (N : Int) := ⟨n.toNat, by omega⟩
    have hN : 1 ≤ N ∧ N ≤ 6 := by omega
    rw [hi] at cn
    have p7 := pow_le7 hN.2
    have c2 := in_any s 1 (wrap64 (wrap64 (2 ^ (N + 1)) - 1)) w
    cases hs : inB s 1 (wrap64 (wrap64 (2 ^ (N + 1)) - 1))
    · rw [hs] at c2
      have hc : closI (N : Int) s = false := by
        rw [(w64_pow hN.2).2] at hs
        have h1 := inB_not hs
        by_cases h0 : s = 0
        · subst h0
          have := closI_nat (S := 0) hN (Nat.two_pow_pos _)
          rw [show bit 0 0 = false from rfl, Bool.false_and] at this
          exact this
        · refine closI_f (okS_f ?_)
          rw [Int.toNat_natCast, show (2 : Int) ^ (N + 1) = ((2 ^ (N + 1) : Nat) : Int) by rw [Int.natCast_pow]; rfl]
          omega
      rw [hc]
      clear hi hb hs hc p7
      go_enter Tryd.func14, Tryd.ntmps14
      go_wp2_with (go_at_call 45; first
        | ((with_reducible refine cn.mono ?_); clear cn; rintro e w' ⟨rfl, rfl⟩)
        | ((with_reducible refine c2.mono ?_); clear c2; rintro e w' ⟨rfl, rfl⟩))
      go_ret
      exact ⟨rfl, rfl⟩
    · rw [hs] at c2
      rw [(w64_pow hN.2).2] at hs
      have h1 := inB_of hs
      obtain ⟨S, rfl⟩ : ∃ S : Nat, s = (S : Int) := ⟨s.toNat, by omega⟩
      have hS : S < 2 ^ (N + 1) := by omega
      cases h0 : bit S 0
      · have hc := closI_nat hN hS
        rw [h0, Bool.false_and] at hc
        rw [hc]
        obtain ⟨o1, o2⟩ := even_facts h0
        clear hi hb hs hc p7 h1 hS h0
        go_enter Tryd.func14, Tryd.ntmps14
        go_wp2_with (go_at_call 45; first
          | ((with_reducible refine cn.mono ?_); clear cn; rintro e w' ⟨rfl, rfl⟩)
          | ((with_reducible refine c2.mono ?_); clear c2; rintro e w' ⟨rfl, rfl⟩))
        go_ret
        exact ⟨rfl, rfl⟩
      · rw [closI_nat hN hS, ← closN_nat hN hS]
        exact sclosed_yes N S hN hS h0 w

set_option maxHeartbeats 1000000 in
theorem sstepsFor_any (n s : Int) (w : World) :
    Calls Tryd.prog 35 #[.int .i64 n, .int .i64 s] w fun e w' => e = .returned (.int .i64 (stpI n s)) ∧ w = w' := by
  have cc := sclosed_any n s w
  unfold stpI
  cases hc : closI n s
  · rw [hc] at cc
    clear hc
    go_enter Tryd.func35, Tryd.ntmps35
    go_wp2_with (go_at_call 14; refine cc.mono ?_; rintro e w' ⟨rfl, rfl⟩)
    go_ret
    exact ⟨rfl, rfl⟩
  · have ho : okS n s = true := by
      cases h : okS n s
      · rw [closI_f h] at hc; cases hc
      · rfl
    obtain ⟨N, S, rfl, rfl, h1, h6, hS⟩ := okS_of ho
    have p7 := pow_le7 h6
    rw [hc] at cc
    have hcn : closN N S = true := by rw [closN_nat ⟨h1, h6⟩ hS, ← closI_nat ⟨h1, h6⟩ hS]; exact hc
    have hk : (cntN S (N + 1) : Int) - 1 = ((stpN N S : Nat) : Int) := by
      have := tab_of sets_ok ⟨h1, h6⟩ hS
      rw [hcn] at this
      simp only [Bool.not_true, Bool.false_or, Bool.and_eq_true, decide_eq_true_eq] at this
      have h1 := this.1.1.1
      unfold stpN at h1 ⊢
      omega
    have hlen : ∀ v, cntN S v ≤ v := by
      intro v
      induction v with
      | zero => exact Nat.le_refl _
      | succ v ih => unfold cntN; omega
    simp only [if_true, Int.toNat_natCast]
    rw [← hk]
    have hS7 : S < 128 := by omega
    clear hc hcn ho hk hS p7
    go_enter Tryd.func35, Tryd.ntmps35
    go_wp2_with (go_at_call 14; refine cc.mono ?_; rintro e w' ⟨rfl, rfl⟩)
    go_loopw [5, 6] (fun s i wr => ∃ v : Nat, v ≤ N + 1 ∧ i = .int .i64 v ∧ s = .int .i64 ((cntN S v : Nat) - 1) ∧ w = wr) (fun _ i _ => N + 1 - (intOf i).toNat)
    case atStart => exact ⟨0, by omega, rfl, rfl, rfl⟩
    case round =>
      obtain ⟨v, hv, rfl, rfl, rfl⟩ := hrel
      have hc := hlen v
      by_cases hlt : v < N + 1
      · have hb := shr_bit S v
        have hd : S / 2 ^ v % 2 ≤ 1 := by omega
        have hn : Hid (cntN S (v + 1) = cntN S v + S / 2 ^ v % 2) := Lib.hid rfl
        generalize S / 2 ^ v % 2 = d at *
        generalize cntN S v = c at *
        clear hlen
        go_wp2
        go_roundw
        case rel => exact ⟨v + 1, by omega, by go_num, by rw [hn.out]; exact congrArg (Value.int .i64) (by go_num <;> omega), trivial⟩
        case measure => simp [intOf]; omega
      · obtain rfl : v = N + 1 := by omega
        go_wp2
        go_ret
        exact ⟨rfl, rfl⟩

theorem setsT_one (N : Nat) : setsT N 1 = [] := by
  unfold setsT
  rw [if_neg (by unfold closN; rw [show bit 0 0 = false from rfl]; simp)]
  rfl

theorem ssets_no (n : Int) (w : World) (h : inB n 1 6 = false) :
    Calls Tryd.prog 32 #[.int .i64 n] w (IntsPost [] w) := by
  have hb := inB_not h
  clear h
  go_enter Tryd.func32, Tryd.ntmps32
  go_wp2_with fail
  go_loopw [3, 4] (fun v i wr => v = .slice (some ⟨w.heap.size, 0, none⟩) 0 0 ∧ i = .int .i64 1 ∧ wr = w.alloc (.cells #[] 3)) (fun _ _ _ => 0)
  case atStart => exact ⟨rfl, rfl, rfl⟩
  case round =>
    obtain ⟨rfl, rfl, rfl⟩ := hrel
    by_cases h1 : (1 : Int) ≤ n
    · have h2 : (6 : Int) < n := by omega
      have d2 : decide (n ≤ 6) = false := decide_eq_false (by omega)
      clear hb
      go_wp2_with fail
      go_ret
      exact ⟨_, 0, rfl, OwnI.made w, World.grownBy_alloc _ _ none⟩
    · clear hb
      go_wp2_with fail
      go_ret
      exact ⟨_, 0, rfl, OwnI.made w, World.grownBy_alloc _ _ none⟩

set_option maxRecDepth 100000 in
set_option maxHeartbeats 1600000 in
theorem ssets_yes (N : Nat) (hN : 1 ≤ N ∧ N ≤ 6) (w : World) :
    Calls Tryd.prog 32 #[.int .i64 N] w (IntsPost (setsT N (2 ^ (N + 1))) w) := by
  obtain ⟨i0, hi0, hz0, hz1, hz2⟩ := info_parts infoInt
  have p7 := pow_le7 hN.2
  have p0 : 1 ≤ 2 ^ (N + 1) := Nat.two_pow_pos _
  have hsh := (w64_pow hN.2).1
  have cc : ∀ (k : Nat) (w : World), k < 2 ^ (N + 1) → Calls Tryd.prog 14 #[.int .i64 N, .int .i64 k] w fun e w' => e = .returned (.bool (closN N k)) ∧ w = w' := fun k w hk => by
    have := sclosed_any (N : Int) (k : Int) w
    rw [closI_nat hN hk, ← closN_nat hN hk] at this
    exact this
  have d1 : decide ((1 : Int) ≤ (N : Int)) = true := decide_eq_true (by omega)
  have d2 : decide ((N : Int) ≤ 6) = true := decide_eq_true (by omega)
  generalize hM : 2 ^ (N + 1) = M at *
  clear hM
  go_enter Tryd.func32, Tryd.ntmps32
  go_wp2_with fail
  go_loopw [3, 4] (fun v i wr => ∃ k : Nat, 1 ≤ k ∧ k ≤ M ∧ i = .int .i64 k ∧ RowRel (setsT N k) w.heap.size w v wr) (fun _ i _ => M - (intOf i).toNat)
  case atStart => exact ⟨1, by omega, p0, rfl, _, 0, by rw [setsT_one]; rfl, by rw [setsT_one]; exact OwnI.made w, World.grownBy_alloc _ _ none⟩
  case round =>
    obtain ⟨k, hk1, hk, rfl, a, cap, rfl, hown, hgr⟩ := hrel
    have hlen := setsT_len N k
    by_cases hlt : k < M
    · have dk : decide ((k : Int) < (M : Int)) = true := decide_eq_true (by omega)
      have c2 := cc k wr hlt
      cases hb : closN N k
      · rw [hb] at c2
        have e := Lib.hid (setsT_miss hb)
        clear hb cc
        go_wp2_with fail
        refine c2.mono ?_
        rintro e w2 ⟨rfl, rfl⟩
        clear c2
        go_wp2_with fail
        go_roundw
        case rel => exact ⟨k + 1, by omega, by omega, by go_num, a, cap, by rw [e.out], by rw [e.out]; exact hown, hgr⟩
        case measure => simp [intOf]; omega
      · rw [hb] at c2
        have e := Lib.hid (setsT_hit hb)
        clear hb cc
        go_wp2_with fail
        refine c2.mono ?_
        rintro e w2 ⟨rfl, rfl⟩
        clear c2
        go_wp2_with (at_builtin; refine wpList_append_own _ rfl _ _ 30 rfl w.heap.size 3 i0 (.int .i64 0) 1 8 Tryd.underlying30 hi0 hz0 hz1 hz2 rfl (by decide) _ _ _ rfl (World.ownsRow.alloc hown _) ⟨wr.heap.size, 0, none⟩ 1 1 [.int .i64 (k : Int)] rfl rfl ?c1 ?c2 ?c3 ?c4 ?c5 ?_)
        case c1 =>
          intro j u hj
          match j, hj with
          | 0, hj => simp at hj; subst hj; simp [Addr.add]
        case c2 => intro u hu; simp at hu; subst hu; rfl
        case c3 => unfold maxLen; omega
        case c4 => omega
        case c5 => have := hgr.size; simp; omega
        intro v' w3 hown' hgrow _
        have R := row_more hown hgr hown' (grow_box hgrow)
        rw [← e.out] at R
        clear hown hown' hgrow
        go_wp2
        go_roundw
        case rel => exact ⟨k + 1, by omega, by omega, by go_num, R⟩
        case measure => simp [intOf]; omega
    · obtain rfl : k = M := by omega
      have dk : decide ((k : Int) < (k : Int)) = false := decide_eq_false (by omega)
      go_wp2_with fail
      go_ret
      exact ⟨a, cap, rfl, hown, hgr⟩

theorem ssets_any (n : Int) (w : World) :
    Calls Tryd.prog 32 #[.int .i64 n] w (IntsPost (setsI n) w) := by
  cases hi : inB n 1 6
  · have : setsI n = [] := by unfold setsI; rw [hi]; rfl
    rw [this]
    exact ssets_no n w hi
  · have hb := inB_of hi
    obtain ⟨N, rfl⟩ : ∃ N : Nat, n = (N : Int) := ⟨n.toNat, by omega⟩
    rw [← setsT_lit (by omega)]
    exact ssets_yes N (by omega) w

end Go.Proofs.YtahlmdlnemmhpaaDoor
