/-
  The walk of the law of SelfOf.
-/
import Derived.Test.YtihhegpgadhmfaaWL2
import Derived.Test.YtihhegpgadhmfaaWDraw
namespace Go.Proofs.Ytihhegpgadhmfaa
open Go.RowKit

theorem selfL_facts (k n : Int) : selfL k n = [] ∨ (ascL (selfL k n) = true ∧ 0 < (selfL k n).length ∧ 1 ≤ n ∧ n ≤ 6 ∧ ((k = 1 ∧ ((selfL k n).length : Int) = n + 1) ∨ (k ≠ 1 ∧ selfL k n = [0, n]))) := by
  by_cases h : inB k 0 2 = true ∧ inB n 1 6 = true
  · right
    rw [selfL_t h.1 h.2]
    have h1 := inB_of h.1
    have h2 := inB_of h.2
    obtain rfl | rfl | rfl : k = 0 ∨ k = 1 ∨ k = 2 := by omega
    all_goals
      obtain rfl | rfl | rfl | rfl | rfl | rfl : n = 1 ∨ n = 2 ∨ n = 3 ∨ n = 4 ∨ n = 5 ∨ n = 6 := by omega
    all_goals decide
  · exact .inl (if_neg h)

theorem two_cells (w : World) (x y : Int) (t : TypeId) : IntsAt (w.alloc (.cells #[.int .i64 x, .int .i64 y] t)) (some ⟨w.heap.size, 0, none⟩) [x, y] := by
  refine ⟨by simp [maxLen], .inr ⟨w.heap.size, 0, rfl, by simp, fun i hi => ?_⟩⟩
  have hn : (w.alloc (.cells #[.int .i64 x, .int .i64 y] t)).heap[w.heap.size]? = some (.cells #[.int .i64 x, .int .i64 y] t) := heap_alloc_new w _
  obtain ⟨c0, c1, _⟩ := cells_two hn
  match i, hi with
  | 0, _ => exact c0
  | 1, _ => exact c1

set_option maxHeartbeats 1600000 in
theorem FnSelfOf_walk (a0 : Option Addr) (len0 cap0 : Nat) (z0 : List Int) (w : World) (w0 : IsRow .u8 w a0 len0 cap0 z0) :
    Calls Try.prog 7 #[.slice a0 len0 cap0] w fun e w' => e = .returned (.bool true) ∧ Below w.heap.size w w' := by
  by_cases hl : (1048576 : Int) < (len0 : Int)
  · clear w0
    go_enter Try.func7, Try.ntmps7
    go_wp2_with fail
    go_ret
    exact ⟨rfl, Below.refl _ _⟩
  · go_enter Try.func7, Try.ntmps7
    go_wp2_with fail
    refine (DrawSelfOf_any _ _ _ _ _ w0).mono ?_
    rintro e w1 ⟨k, n, rfl, hn1, hn2, hg⟩
    clear w0
    have hlen := selfL_len k n
    have hcg := self_any k n
    have hcs := sself_any k n
    have hf := selfL_facts k n
    have hs := sameL_self (selfL k n)
    generalize selfL k n = zs at *
    have hlen2 : zs.length ≤ maxLen := by unfold maxLen; omega
    have Hlen2 := Lib.hid hlen2
    have Hcg := Lib.hid hcg
    have Hcs := Lib.hid hcs
    have Hf := Lib.hid hf
    clear hlen2 hcg hcs hf
    go_wp2_with fail
    refine (Hcg.out _).mono ?_
    rintro e w2 ⟨a, ca, rfl, ho2, hg2⟩
    have H2 := Lib.hid ho2
    clear ho2
    go_wp2_with fail
    refine (Hcs.out _).mono ?_
    rintro e w3 ⟨b, cb, rfl, ho3, hg3⟩
    have H3 := Lib.hid ho3
    have H2' := Lib.hid (H2.out.kept hg3)
    clear ho3
    go_wp2_with fail
    refine (sameInts_any _ _ _ _ zs zs _ (H2'.out.at Hlen2.out) (H3.out.at Hlen2.out)).mono ?_
    rintro e w4 ⟨rfl, hg4⟩
    have hA := grownBy_trans (grownBy_trans (grownBy_trans hg hg2) hg3) hg4
    have H4 := Lib.hid ((H2'.out.kept hg4).at Hlen2.out)
    clear hg hg2 hg3 hg4
    rcases Hf.out with h0 | ⟨f1, f2, f3, f4, ⟨f5, f6⟩ | ⟨f5, f6⟩⟩
    · subst h0
      go_wp2_with (go_at_call 16; refine (alive_any _).mono ?_; rintro e w' ⟨rfl, rfl⟩)
      go_ret
      exact ⟨rfl, below_of hA⟩
    · have g1 : (k == 1) = true := by simpa using f5
      have g2 : ((zs.length : Int) == n + 1) = true := by simpa using f6
      have g3 : ((zs.length : Int) == 0) = false := by rw [beq_eq_false_iff_ne]; omega
      have g4 : (k != 1) = false := by simpa using f5
      clear f5 f6
      go_wp2_with fail
      refine (ascend_any _ _ zs _ H4.out).mono ?_
      rintro e w5 ⟨rfl, hg5⟩
      go_wp2_with fail
      go_ret
      exact ⟨rfl, below_of (grownBy_trans hA hg5)⟩
    · have g1 : (k == 1) = false := by simpa using f5
      have g3 : ((zs.length : Int) == 0) = false := by rw [beq_eq_false_iff_ne]; omega
      have g4 : (k != 1) = true := by simpa using f5
      have F6 := Lib.hid f6
      clear f5 f6
      go_wp2_with fail
      refine (sameInts_any _ _ _ _ zs [0, n] _ (H4.out.grown (World.grownBy_alloc _ _ _)) (two_cells _ _ _ _)).mono ?_
      rintro e w5 ⟨rfl, hg5⟩
      have hs2 : sameL zs [0, n] = true := by rw [F6.out]; exact sameL_self _
      go_wp2_with fail
      refine (ascend_any _ _ zs _ ((H4.out.grown (World.grownBy_alloc _ _ _)).grown hg5)).mono ?_
      rintro e w6 ⟨rfl, hg6⟩
      go_wp2_with fail
      go_ret
      exact ⟨rfl, below_of (grownBy_trans (grownBy_trans (grownBy_trans hA (World.grownBy_alloc _ _ _)) hg5) hg6)⟩

end Go.Proofs.Ytihhegpgadhmfaa
