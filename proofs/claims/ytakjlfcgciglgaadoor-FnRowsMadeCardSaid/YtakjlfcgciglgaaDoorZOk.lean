/-
  What impl.ClosedOk, impl.StepsFor and impl.MadeBy (a goto back) answer. The table of math/bits lies as it is laid.
-/
import Derived.Test.YtakjlfcgciglgaaDoorZFol
import Derived.ScopeJumps
namespace Go.Proofs.YtakjlfcgciglgaaDoor
open Go.RowKit

theorem okS_of {n s : Int} (h : okS n s = true) : ∃ N S : Nat, n = (N : Int) ∧ s = (S : Int) ∧ 1 ≤ N ∧ N ≤ 6 ∧ S < 2 ^ (N + 1) := by
  unfold okS at h
  simp only [Bool.and_eq_true, decide_eq_true_eq] at h
  have hb := inB_of h.1.1
  refine ⟨n.toNat, s.toNat, by omega, by omega, by omega, by omega, h.2⟩
theorem closI_f {n s : Int} (h : okS n s = false) : closI n s = false := by unfold closI; rw [h]; rfl
theorem okS_nat {N S : Nat} (hN : 1 ≤ N ∧ N ≤ 6) (hS : S < 2 ^ (N + 1)) : okS (N : Int) (S : Int) = true := by
  unfold okS
  rw [inB_t (by omega), decide_eq_true (by omega), Int.toNat_natCast, Int.toNat_natCast, decide_eq_true hS]
  rfl
theorem closI_nat {N S : Nat} (hN : 1 ≤ N ∧ N ≤ 6) (hS : S < 2 ^ (N + 1)) : closI (N : Int) (S : Int) = (bit S 0 && subN (folsN N S) S) := by
  unfold closI
  rw [okS_nat hN hS, Int.toNat_natCast, Int.toNat_natCast]
  exact eq_of_beq (tab_of clos_fols hN hS)
theorem closN_nat {N S : Nat} (hN : 1 ≤ N ∧ N ≤ 6) (hS : S < 2 ^ (N + 1)) : closN N S = (bit S 0 && subN (folsN N S) S) := eq_of_beq (tab_of clos_fols hN hS)
theorem sub_one_tab : ((List.range 128).all fun s => (subN 1 s == bit s 0)) = true := by decide +kernel
theorem sub_one {S : Nat} (h : S < 128) : subN 1 S = bit S 0 := by
  have h1 := sub_one_tab
  rw [List.all_eq_true] at h1
  exact eq_of_beq (h1 S (List.mem_range.2 h))

theorem steps_tab : tabN (fun n s => !closN n s || ((setsL n).any fun t => t == s) && decide (1 ≤ stpN n s)) = true := by decide +kernel

theorem made_start : tabN (fun n s => bit (s ||| 1) 0 && decide (s ||| 1 < 2 ^ (n + 1))) = true := by decide +kernel
/-- A round of the goto: closed, or more. -/
theorem made_round {N S : Nat} (hN : 1 ≤ N ∧ N ≤ 6) {m : Nat} (hm : m < 2 ^ (N + 1)) (h0 : bit m 0 = true) (he : madeF 8 N m = madeN N S) :
    (subN (folsN N m) m = true ∧ m = madeN N S) ∨ (subN (folsN N m) m = false ∧ bits .or .i64 (m : Int) ((folsN N m : Nat) : Int) = ((m ||| folsN N m : Nat) : Int) ∧ m < m ||| folsN N m ∧ m ||| folsN N m < 2 ^ (N + 1) ∧ bit (m ||| folsN N m) 0 = true ∧ madeF 8 N (m ||| folsN N m) = madeN N S) := by
  have p7 := pow_le7 hN.2
  have hc := closN_nat hN hm
  rw [h0, Bool.true_and] at hc
  cases hb : subN (folsN N m) m
  · right
    rw [hb] at hc
    have k1 := tab_of step_more hN hm
    have k2 := tab_of step_fols hN hm
    have k3 := tab_of made_step hN hm
    rw [h0, hc] at k1 k3
    rw [h0] at k2
    simp only [Bool.not_true, Bool.false_or, Bool.or_false, Bool.and_eq_true, decide_eq_true_eq, beq_iff_eq] at k1 k2 k3
    have hf := folsN_lt N m
    rw [k2]
    exact ⟨rfl, by rw [← k2]; exact or64 (by omega) (by omega), k1.1.1, k1.1.2, k1.2, k3.trans he⟩
  · left
    rw [hb] at hc
    have k := tab_of made_stop hN hm
    rw [hc] at k
    simp only [Bool.not_true, Bool.false_or, beq_iff_eq] at k
    exact ⟨rfl, k.symm.trans he⟩

set_option maxHeartbeats 2000000 in
theorem made_no (n s : Int) (w : World) (ho : okS n s = false) :
    Calls Tryd.prog 39 #[.int .i64 n, .int .i64 s] w fun e w' => e = .returned (.int .i64 (-1)) ∧ w.grownBy w' none := by
  have co := setOk_any n s w
  rw [ho] at co
  go_enter Tryd.func39, Tryd.ntmps39
  go_wp2
  go_step3
  go_wp2_with (go_at_call 46; refine co.mono ?_; rintro e w' ⟨rfl, rfl⟩)
  rw [Exit.noGoto_ret]
  go_ret
  exact ⟨rfl, grownBy_refl _ _⟩

set_option maxHeartbeats 4000000 in
theorem made_yes (N S : Nat) (hN : 1 ≤ N ∧ N ≤ 6) (hS : S < 2 ^ (N + 1)) (w : World) (hT : TzAt w) :
    Calls Tryd.prog 39 #[.int .i64 N, .int .i64 S] w fun e w' => e = .returned (.int .i64 ((madeN N S : Nat) : Int)) ∧ w.grownBy w' none := by
  have p7 := pow_le7 hN.2
  have co := setOk_any (N : Int) (S : Int) w
  rw [okS_nat hN hS] at co
  have hs := tab_of made_start hN hS
  simp only [Bool.and_eq_true, decide_eq_true_eq] at hs
  have ho1 : bits .or .i64 (S : Int) 1 = ((S ||| 1 : Nat) : Int) := or64 (a := S) (b := 1) (by omega) (by decide)
  go_enter Tryd.func39, Tryd.ntmps39
  go_wp2
  refine wp_scope_jumps 0 (fun a' w' => ∃ (m : Nat) (u6 u13 u14 u15 u16 u17 u18 u19 u20 u21 u22 : Value), a' = { tmps := #[.int .i64 N, .int .i64 S, undef, undef, .int .i64 0, .int .i64 m, u6, .int .i64 N, .int .i64 S, .bool true, .bool false, .int .i64 S, .int .i64 ((S ||| 1 : Nat) : Int), u13, u14, u15, u16, u17, u18, u19, u20, u21, u22, undef], defers := [] } ∧ m < 2 ^ (N + 1) ∧ bit m 0 = true ∧ madeF 8 N m = madeN N S ∧ w.grownBy w' none) (fun a' _ => 128 - (intOf (a'.tmps.getD 5 undef)).toNat) rfl ?_ ?_
  · have cf := fols_any N (S ||| 1) hN hs.2 w hT
    have cw : ∀ w : World, Calls Tryd.prog 25 #[.int .i64 ((folsN N (S ||| 1) : Nat) : Int), .int .i64 ((S ||| 1 : Nat) : Int)] w fun e w' => e = .returned (.bool (subN (folsN N (S ||| 1)) (S ||| 1))) ∧ w = w' := within_any _ _ (by have := folsN_lt N (S ||| 1); omega) (by omega)
    have hst := made_round (S := S) hN hs.2 hs.1 rfl
    generalize S ||| 1 = m at *
    generalize folsN N m = f at *
    clear hs hS hT
    rcases hst with ⟨hb, hR⟩ | ⟨hb, hor, h3⟩
    · rw [hb] at cw
      have HR := Lib.hid hR
      clear hb hR
      go_wp2_with (first
        | (go_at_call 46; refine co.mono ?_; rintro e w' ⟨rfl, rfl⟩)
        | (go_at_call 47; refine cf.mono ?_; rintro e w' ⟨rfl, hg⟩)
        | (go_at_call 25; refine (cw _).mono ?_; rintro e w' ⟨rfl, rfl⟩))
      go_step3
      go_wp2_with (first
        | (go_at_call 46; refine co.mono ?_; rintro e w' ⟨rfl, rfl⟩)
        | (go_at_call 47; refine cf.mono ?_; rintro e w' ⟨rfl, hg⟩)
        | (go_at_call 25; refine (cw _).mono ?_; rintro e w' ⟨rfl, rfl⟩))
      simp only [Exit.jump]
      go_ret
      exact ⟨by rw [← HR.out]; rfl, hg⟩
    · rw [hb] at cw
      have H3 := Lib.hid h3
      clear hb h3
      go_wp2_with (first
          | (go_at_call 46; refine co.mono ?_; rintro e w' ⟨rfl, rfl⟩)
          | (go_at_call 47; refine cf.mono ?_; rintro e w' ⟨rfl, hg⟩)
          | (go_at_call 25; refine (cw _).mono ?_; rintro e w' ⟨rfl, rfl⟩))
      go_step3
      go_wp2_with (first
          | (go_at_call 46; refine co.mono ?_; rintro e w' ⟨rfl, rfl⟩)
          | (go_at_call 47; refine cf.mono ?_; rintro e w' ⟨rfl, hg⟩)
          | (go_at_call 25; refine (cw _).mono ?_; rintro e w' ⟨rfl, rfl⟩))
      go_step3
      exact ⟨rfl, _, _, _, _, _, _, _, _, _, _, _, _, rfl, H3.out.2.1, H3.out.2.2.1, H3.out.2.2.2, hg⟩
  · rintro a' w1 ⟨m, u6, u13, u14, u15, u16, u17, u18, u19, u20, u21, u22, rfl, hm, h0, he, hg1⟩
    have cf := fols_any N m hN hm w1 (hT.grown hg1)
    have cw : ∀ w : World, Calls Tryd.prog 25 #[.int .i64 ((folsN N m : Nat) : Int), .int .i64 (m : Int)] w fun e w' => e = .returned (.bool (subN (folsN N m) m)) ∧ w = w' := within_any _ _ (by have := folsN_lt N m; omega) (by omega)
    have hst := made_round (S := S) hN hm h0 he
    generalize folsN N m = f at *
    clear hs hS hT h0 he co ho1
    rcases hst with ⟨hb, hR⟩ | ⟨hb, hor, h3⟩
    · rw [hb] at cw
      have HR := Lib.hid hR
      clear hb hR
      go_wp2_with (first
          | (go_at_call 46; refine co.mono ?_; rintro e w' ⟨rfl, rfl⟩)
          | (go_at_call 47; refine cf.mono ?_; rintro e w' ⟨rfl, hg⟩)
          | (go_at_call 25; refine (cw _).mono ?_; rintro e w' ⟨rfl, rfl⟩))
      simp only [Exit.jump]
      go_ret
      exact ⟨by rw [← HR.out]; rfl, grownBy_trans hg1 hg⟩
    · rw [hb] at cw
      have H3 := Lib.hid h3
      have Hm := Lib.hid hm
      clear hb h3
      go_wp2_with (first
          | (go_at_call 46; refine co.mono ?_; rintro e w' ⟨rfl, rfl⟩)
          | (go_at_call 47; refine cf.mono ?_; rintro e w' ⟨rfl, hg⟩)
          | (go_at_call 25; refine (cw _).mono ?_; rintro e w' ⟨rfl, rfl⟩))
      go_step3
      refine ⟨rfl, ⟨_, _, _, _, _, _, _, _, _, _, _, _, rfl, H3.out.2.1, H3.out.2.2.1, H3.out.2.2.2, grownBy_trans hg1 hg⟩, ?_⟩
      have := H3.out
      have := Hm.out
      simp [intOf]
      omega

theorem made_any (n s : Int) (w : World) (hT : TzAt w) :
    Calls Tryd.prog 39 #[.int .i64 n, .int .i64 s] w fun e w' => e = .returned (.int .i64 (madeI n s)) ∧ w.grownBy w' none := by
  unfold madeI
  cases ho : okS n s
  · exact made_no n s w ho
  · obtain ⟨N, S, rfl, rfl, h1, h6, hS⟩ := okS_of ho
    have := made_yes N S ⟨h1, h6⟩ hS w hT
    simpa using this

end Go.Proofs.YtakjlfcgciglgaaDoor
