/-
  What impl.StepsFor, impl.ClosedSets and impl.ChainWithin answer. The table of math/bits lies as it is laid (ChainWithin wants none).
-/
import Derived.Test.YtahlmdlnemmhpaaDoorZOk
import Derived.Test.YtahlmdlnemmhpaaDoorRow
namespace Go.Proofs.YtahlmdlnemmhpaaDoor
open Go.RowKit

def onesOk (x k : Nat) : Bool := [(3, 2), (5, 2), (7, 3), (9, 2), (15, 4), (17, 2), (21, 3), (31, 5), (33, 2), (63, 6), (65, 2), (73, 3), (85, 4), (127, 7)].any fun p => p.1 == x && p.2 == k
theorem ones_tab : tabN (fun n s => !closN n s || onesOk s (stpN n s + 1)) = true := by decide +kernel

theorem ones_nat (x k : Nat) (h : onesOk x k = true) (w : World) :
    Calls Tryd.prog 62 #[.int .u64 x] w fun e w' => e = .returned (.int .i64 k) ∧ w = w' := by
  unfold onesOk at h
  rw [List.any_eq_true] at h
  obtain ⟨p, hp, h⟩ := h
  simp only [Bool.and_eq_true, beq_iff_eq] at h
  obtain ⟨rfl, rfl⟩ := h
  simp only [List.mem_cons, List.not_mem_nil, or_false] at hp
  rcases hp with rfl | rfl | rfl | rfl | rfl | rfl | rfl | rfl | rfl | rfl | rfl | rfl | rfl | rfl
  all_goals exact ones_lit _ _ (by decide) w

theorem ones_any (x k : Nat) (h : onesOk x k = true) (w : World) :
    Calls Tryd.prog 55 #[.int .u64 x] w fun e w' => e = .returned (.int .i64 k) ∧ w = w' := by
  have hx : x < 128 := by
    unfold onesOk at h
    rw [List.any_eq_true] at h
    obtain ⟨p, hp, h⟩ := h
    simp only [Bool.and_eq_true, beq_iff_eq] at h
    rw [← h.1]
    clear h
    revert p
    decide
  have cc := ones_nat x k h w
  have hw : IntKind.u64.wrap (x : Int) = (x : Int) := by rw [IntKind.wrap_u64]; omega
  clear h
  go_enter Tryd.func55, Tryd.ntmps55
  go_wp2_with (go_at_call 62; refine cc.mono ?_; rintro e w' ⟨rfl, rfl⟩)
  go_ret
  exact ⟨rfl, rfl⟩

theorem stepsFor_any (n s : Int) (w : World) (hT : TzAt w) :
    Calls Tryd.prog 29 #[.int .i64 n, .int .i64 s] w fun e w' => e = .returned (.int .i64 (stpI n s)) ∧ w.grownBy w' none := by
  have cc := closed_any n s w hT
  unfold stpI
  cases hc : closI n s
  · rw [hc] at cc
    clear hc hT
    go_enter Tryd.func29, Tryd.ntmps29
    go_wp2_with (go_at_call 13; refine cc.mono ?_; rintro e w' ⟨rfl, hg⟩)
    go_ret
    exact ⟨rfl, hg⟩
  · have ho : okS n s = true := by
      cases h : okS n s
      · rw [closI_f h] at hc; cases hc
      · rfl
    obtain ⟨N, S, rfl, rfl, h1, h6, hS⟩ := okS_of ho
    have p7 := pow_le7 h6
    rw [hc] at cc
    have hk := tab_of ones_tab ⟨h1, h6⟩ hS
    have hcn : closN N S = true := by rw [closN_nat ⟨h1, h6⟩ hS, ← closI_nat ⟨h1, h6⟩ hS]; exact hc
    rw [hcn] at hk
    have co := fun w => ones_any S (stpN N S + 1) hk w
    have hb : stpN N S ≤ 6 := by
      have := tab_of sets_ok ⟨h1, h6⟩ hS
      rw [hcn] at this
      simp only [Bool.not_true, Bool.false_or, Bool.and_eq_true, decide_eq_true_eq] at this
      omega
    have hw : IntKind.u64.wrap (S : Int) = (S : Int) := by rw [IntKind.wrap_u64]; omega
    simp only [if_true, Int.toNat_natCast]
    generalize stpN N S = k at *
    clear hc hT hk hcn ho
    go_enter Tryd.func29, Tryd.ntmps29
    go_wp2_with (first
      | (go_at_call 13; refine cc.mono ?_; rintro e w' ⟨rfl, hg⟩)
      | (go_at_call 55; refine (co _).mono ?_; rintro e w' ⟨rfl, rfl⟩))
    go_ret
    exact ⟨by simp, hg⟩

def setsT (n : Nat) : Nat → List Int
  | 0 => []
  | s + 1 => if closN n s then setsT n s ++ [(s : Int)] else setsT n s
theorem setsT_hit {n s : Nat} (h : closN n s = true) : setsT n (s + 1) = setsT n s ++ [(s : Int)] := if_pos h
theorem setsT_miss {n s : Nat} (h : closN n s = false) : setsT n (s + 1) = setsT n s := if_neg (by rw [h]; decide)
theorem setsT_len (n : Nat) : ∀ s, (setsT n s).length ≤ s := by
  intro s
  induction s with
  | zero => exact Nat.le_refl _
  | succ s ih =>
    cases h : closN n s
    · rw [setsT_miss h]; omega
    · rw [setsT_hit h, List.length_append]; simp; omega
theorem setsT_lit {N : Nat} (hN : 1 ≤ N ∧ N ≤ 6) : setsT N (2 ^ (N + 1)) = setsI (N : Int) := by
  have h : [1, 2, 3, 4, 5, 6].all (fun n => setsT n (2 ^ (n + 1)) == (setsL n).map Int.ofNat) = true := by decide +kernel
  rw [List.all_eq_true] at h
  unfold setsI
  rw [inB_t (by omega), Int.toNat_natCast]
  exact eq_of_beq (h N (by simp; omega))

set_option maxRecDepth 100000 in
set_option maxHeartbeats 1600000 in
theorem closedSets_any (n : Int) (w : World) (hT : TzAt w) :
    Calls Tryd.prog 24 #[.int .i64 n] w (IntsPost (setsI n) w) := by
  have cs := steps_any n w
  cases hi : inB n 1 6
  · rw [hi] at cs
    have hp : Hid (setsI n = []) := Lib.hid (by unfold setsI; rw [hi]; rfl)
    clear hT hi
    go_enter Tryd.func24, Tryd.ntmps24
    go_wp2_with (go_at_call 49; refine cs.mono ?_; rintro e w' ⟨rfl, rfl⟩)
    go_ret
    rw [hp.out]
    exact ⟨none, 0, rfl, OwnI.nil _ _, grownBy_refl _ _⟩
  · have hb := inB_of hi
    obtain ⟨N, rfl⟩ : ∃ N : Nat, n = (N : Int) := ⟨n.toNat, by omega⟩
    have hN : 1 ≤ N ∧ N ≤ 6 := by omega
    rw [hi] at cs
    have ca := allV_any (N : Int) hb w
    rw [Int.toNat_natCast, show (2 : Int) ^ (N + 1) = ((2 ^ (N + 1) : Nat) : Int) by rw [Int.natCast_pow]; rfl] at ca
    obtain ⟨i0, hi0, hz0, hz1, hz2⟩ := info_parts infoInt
    have p7 := pow_le7 hN.2
    rw [← setsT_lit hN]
    have cc : ∀ (k : Nat) (w : World), k < 2 ^ (N + 1) → TzAt w → Calls Tryd.prog 13 #[.int .i64 N, .int .i64 k] w fun e w' => e = .returned (.bool (closN N k)) ∧ w.grownBy w' none := fun k w hk hT => by
      have := closed_any (N : Int) (k : Int) w hT
      rw [closI_nat hN hk, ← closN_nat hN hk] at this
      exact this
    generalize hM : 2 ^ (N + 1) = M at *
    clear hM hi hb
    go_enter Tryd.func24, Tryd.ntmps24
    go_wp2_with (first
      | (go_at_call 49; refine cs.mono ?_; rintro e w' ⟨rfl, rfl⟩)
      | (go_at_call 50; refine ca.mono ?_; rintro e w' ⟨rfl, rfl⟩))
    clear cs ca
    go_loopw [3, 11] (fun v i wr => ∃ k : Nat, k ≤ M ∧ i = .int .i64 k ∧ RowRel (setsT N k) w.heap.size w v wr) (fun _ i _ => M - (intOf i).toNat)
    case atStart => exact ⟨0, by omega, rfl, none, 0, rfl, OwnI.nil _ _, grownBy_refl _ _⟩
    case round =>
      obtain ⟨k, hk, rfl, a, cap, rfl, hown, hgr⟩ := hrel
      have hlen := setsT_len N k
      by_cases hlt : k < M
      · have c2 := cc k wr hlt (hT.grown hgr)
        cases hb : closN N k
        · rw [hb] at c2
          have e := Lib.hid (setsT_miss hb)
          clear hb
          go_wp2_with (go_at_call 13; refine c2.mono ?_; rintro e w2 ⟨rfl, hg2⟩)
          replace hown := hown.kept hg2
          replace hgr := grownBy_trans hgr hg2
          go_roundw
          case rel => exact ⟨k + 1, by omega, by go_num, a, cap, by rw [e.out], by rw [e.out]; exact hown, hgr⟩
          case measure => simp [intOf]; omega
        · rw [hb] at c2
          have e := Lib.hid (setsT_hit hb)
          clear hb
          go_wp2_with fail
          refine c2.mono ?_
          rintro e w2 ⟨rfl, hg2⟩
          replace hown := hown.kept hg2
          replace hgr := grownBy_trans hgr hg2
          clear c2
          go_wp2_with (at_builtin; refine wpList_append_own _ rfl _ _ 30 rfl w.heap.size 3 i0 (.int .i64 0) 1 8 Tryd.underlying30 hi0 hz0 hz1 hz2 rfl (by decide) _ _ _ rfl (World.ownsRow.alloc hown _) ⟨w2.heap.size, 0, none⟩ 1 1 [.int .i64 (k : Int)] rfl rfl ?c1 ?c2 ?c3 ?c4 ?c5 ?_)
          case c1 =>
            intro j u hj
            match j, hj with
            | 0, hj => simp at hj; subst hj; simp [Addr.add]
          case c2 => intro u hu; simp at hu; subst hu; rfl
          case c3 => unfold maxLen; omega
          case c4 => omega
          case c5 => have := hgr.size; simp; omega
          intro v' w3 hown' hgrow _
          have R := row_more hown hgr hown' (grow_box hgrow)
          rw [← e.out] at R
          clear hown hown' hgrow
          go_wp2
          go_roundw
          case rel => exact ⟨k + 1, by omega, by go_num, R⟩
          case measure => simp [intOf]; omega
      · obtain rfl : k = M := by omega
        go_wp2
        go_ret
        exact ⟨a, cap, rfl, hown, hgr⟩

end Go.Proofs.YtahlmdlnemmhpaaDoor
