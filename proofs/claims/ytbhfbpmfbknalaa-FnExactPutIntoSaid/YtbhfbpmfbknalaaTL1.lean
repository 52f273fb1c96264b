/-
  The laws of TableOk, TableAt, NamedTable, RegularOk.
-/
import Derived.Test.YtbhfbpmfbknalaaTDq
import Derived.Test.YtbhfbpmfbknalaaTCp
import Derived.Test.YtbhfbpmfbknalaaTRg
namespace Go.Proofs.Ytbhfbpmfbknalaa
open Go.RowKit

theorem lit_ints (w : World) (vs : List Int) (h : vs.length ≤ maxLen) : IntsAt (w.alloc (.cells (vs.map (Value.int .i64)).toArray 3)) (some ⟨w.heap.size, 0, none⟩) vs :=
  ⟨h, .inr ⟨w.heap.size, 0, rfl, by simp, fun i hi => by
    rw [Nat.zero_add, cell_of_row _ _ _ _ _ _ (heap_alloc_new w _)]
    simp [List.getD_eq_getElem?_getD, hi]⟩⟩
theorem ones_ints (w : World) : IntsAt (w.alloc (.cells #[.int .i64 1, .int .i64 1, .int .i64 1, .int .i64 1, .int .i64 1, .int .i64 1, .int .i64 1, .int .i64 1, .int .i64 1] 3)) (some ⟨w.heap.size, 0, none⟩) [1, 1, 1, 1, 1, 1, 1, 1, 1] := lit_ints w [1, 1, 1, 1, 1, 1, 1, 1, 1] (by unfold maxLen; simp)
theorem nulls_ints (w : World) : IntsAt (w.alloc (.cells #[.int .i64 0, .int .i64 0, .int .i64 0, .int .i64 0, .int .i64 0, .int .i64 0, .int .i64 0, .int .i64 0, .int .i64 0] 3)) (some ⟨w.heap.size, 0, none⟩) [0, 0, 0, 0, 0, 0, 0, 0, 0] := lit_ints w [0, 0, 0, 0, 0, 0, 0, 0, 0] (by unfold maxLen; simp)
theorem ones_tri : triB [1, 1, 1, 1, 1, 1, 1, 1, 1] = true := by decide +kernel
theorem nulls_tri : triB [0, 0, 0, 0, 0, 0, 0, 0, 0] = true := by decide +kernel
theorem nulls_reg : regB [0, 0, 0, 0, 0, 0, 0, 0, 0] = true := by decide +kernel
theorem make9 (w : World) : (Instr.makeSlice 23 (.int .i64 9) (.int .i64 9)).run Try.prog w = .ok (.slice (some ⟨w.heap.size, 0, none⟩) 9 9) (w.alloc (.cells #[.int .i64 0, .int .i64 0, .int .i64 0, .int .i64 0, .int .i64 0, .int .i64 0, .int .i64 0, .int .i64 0, .int .i64 0] 3)) := by kernel_rfl
theorem nil_ints (w : World) : IntsAt w none [] := ⟨by unfold maxLen; simp, .inl rfl⟩

set_option maxHeartbeats 2000000 in
theorem FnTableOk_walk (a0 : Option Addr) (len0 cap0 : Nat) (z0 : List Int) (w : World) (w0 : IsRow .u8 w a0 len0 cap0 z0) :
    Calls Try.prog 3 #[.slice a0 len0 cap0] w fun e w' => e = .returned (.bool true) ∧ Below w.heap.size w w' := by
  by_cases hl : (1048576 : Int) < (len0 : Int)
  · clear w0
    go_enter Try.func3, Try.ntmps3
    go_wp2_with fail
    go_ret
    exact ⟨rfl, Below.refl _ _⟩
  · have hmk := make9
    go_enter Try.func3, Try.ntmps3
    go_wp2_with fail
    refine (DrawTableOk_any _ _ _ _ _ w0).mono ?_
    rintro e w1 ⟨a, cap, xs, rfl, hI, hg⟩
    clear w0
    have ga := World.grownBy_alloc w1 (.cells #[.slice a xs.length cap] 25) none
    have TT := Lib.hid (T1.new w1 (.slice a xs.length cap))
    have I1 := Lib.hid (hI.grown ga)
    have G1 := Lib.hid (grownBy_trans hg ga)
    have n1 := TT.out.cell
    generalize hv1 : w1.alloc (.cells #[.slice a xs.length cap] 25) = v1 at *
    have c1 := tok_any a cap xs v1 I1.out
    have c2 := fun w2 (g : v1.grownBy w2 none) => stok_any a cap xs w2 (I1.out.grown g)
    clear hI hg ga
    generalize triB xs = b at *
    have hbb : (b != b) = false := by simp
    go_wp2_with fail
    clear hv1
    refine c1.mono ?_
    rintro e w2 ⟨rfl, g2⟩
    have n2 := g2.cell n1 (by simp)
    clear n1 c1
    go_wp2_with fail
    refine (c2 w2 g2).mono ?_
    rintro e w3 ⟨rfl, g3⟩
    clear n2 c2
    go_wp2_with fail
    have cA := tok_any _ 9 _ _ (ones_ints w3)
    rw [ones_tri] at cA
    refine cA.mono ?_
    rintro e w4 ⟨rfl, g4⟩
    clear cA
    go_wp2_with fail
    have cB := tok_any _ 9 _ _ (nulls_ints w4)
    rw [nulls_tri] at cB
    refine cB.mono ?_
    rintro e w5 ⟨rfl, g5⟩
    clear cB
    go_wp2_with fail
    have cC := tok_any none 0 [] w5 (nil_ints w5)
    rw [show triB [] = false from rfl] at cC
    refine cC.mono ?_
    rintro e w6 ⟨rfl, g6⟩
    clear cC
    go_wp2_with fail
    refine (alive_any w6).mono ?_
    rintro e w7 ⟨rfl, rfl⟩
    go_wp2_with fail
    go_ret
    exact ⟨rfl, below_of (grownBy_trans G1.out (grownBy_trans g2 (grownBy_trans g3 (grownBy_trans (World.grownBy_alloc _ _ none) (grownBy_trans g4 (grownBy_trans (World.grownBy_alloc _ _ none) (grownBy_trans g5 g6)))))))⟩

theorem nam_at {m : Nat} (hm : m < 6) : triB (namL m) = true ∧ regB (namL m) = (m != 3 && m != 4) := by
  have h := nam_reg
  rw [List.all_eq_true] at h
  have h := h m (List.mem_range.2 hm)
  rw [Bool.and_eq_true, beq_iff_eq] at h
  exact h

set_option maxHeartbeats 4000000 in
theorem FnNamedTable_walk (a0 : Option Addr) (len0 cap0 : Nat) (z0 : List Int) (w : World) (w0 : IsRow .u8 w a0 len0 cap0 z0) :
    Calls Try.prog 5 #[.slice a0 len0 cap0] w fun e w' => e = .returned (.bool true) ∧ Below w.heap.size w w' := by
  by_cases hl : (1048576 : Int) < (len0 : Int)
  · clear w0
    go_enter Try.func5, Try.ntmps5
    go_wp2_with fail
    go_ret
    exact ⟨rfl, Below.refl _ _⟩
  · go_enter Try.func5, Try.ntmps5
    go_wp2_with fail
    refine (DrawNamedTable_any _ _ _ _ _ w0).mono ?_
    rintro e w1 ⟨n, rfl, hn1, hn2, hg⟩
    clear w0
    have c1 := inam_any n w1
    have c2 := fun w => snam_any n w
    have hfacts : Hid ((inN n = false ∧ namR n = []) ∨ (inN n = true ∧ triB (namR n) = true ∧ regB (namR n) = (n != 3 && n != 4))) := by
      unfold Hid
      by_cases h : 0 ≤ n ∧ n ≤ 5
      · obtain ⟨m, rfl⟩ := Int.eq_ofNat_of_zero_le h.1
        have e : namR (m : Int) = namL m := if_pos h
        have q := nam_at (m := m) (by omega)
        refine .inr ⟨decide_eq_true h, by rw [e]; exact q.1, ?_⟩
        rw [e, q.2]
        have hm : m = 0 ∨ m = 1 ∨ m = 2 ∨ m = 3 ∨ m = 4 ∨ m = 5 := by omega
        rcases hm with rfl | rfl | rfl | rfl | rfl | rfl <;> rfl
      · exact .inl ⟨decide_eq_false h, if_neg h⟩
    generalize namR n = zs at *
    generalize inN n = bb at *
    have hbb : (bb != bb) = false := by simp
    have hs := sameL_self zs
    go_wp2_with fail
    refine c1.mono ?_
    rintro e w2 ⟨a, cap, rfl, hO, hg2⟩
    have ga := World.grownBy_alloc w2 (.cells #[.slice a zs.length cap] 25) none
    have T4 := Lib.hid (T1.new w2 (.slice a zs.length cap))
    have hm : zs.length ≤ maxLen := by
      rcases hfacts.out with ⟨_, h⟩ | ⟨_, h, _⟩
      · rw [h]; unfold maxLen; simp
      · rw [(triB_of h).1]; unfold maxLen; omega
    have I4 := Lib.hid ((hO.kept ga).at hm)
    have G4 := Lib.hid (grownBy_trans hg (grownBy_trans hg2 ga))
    generalize hv2 : w2.alloc (.cells #[.slice a zs.length cap] 25) = v2 at *
    clear hO hg2 ga hg c1
    go_wp2_with fail
    clear hv2
    refine (c2 _).mono ?_
    rintro e w3 ⟨b, cb, rfl, hO3, hg3⟩
    have gb := World.grownBy_alloc w3 (.cells #[.slice b zs.length cb] 25) none
    have T6 := Lib.hid (T1.new w3 (.slice b zs.length cb))
    have T4b := Lib.hid (T4.out.grown (grownBy_trans hg3 gb))
    have I6 := Lib.hid ((hO3.kept gb).at hm)
    have I4b := Lib.hid (I4.out.grown (grownBy_trans hg3 gb))
    have G6 := Lib.hid (grownBy_trans G4.out (grownBy_trans hg3 gb))
    have n4 := T4b.out.cell
    have n6 := T6.out.cell
    generalize hv3 : w3.alloc (.cells #[.slice b zs.length cb] 25) = v3 at *
    clear hO3 hg3 gb c2
    have cs := sameT_any a b cap cb zs zs v3 I4b.out I6.out
    rw [hs] at cs
    go_wp2_with fail
    clear hv3
    refine cs.mono ?_
    rintro e w5 ⟨rfl, g5⟩
    have n5 := g5.cell n4 (by simp)
    clear n4 n6 cs
    have hcase := hfacts.out
    rcases hcase with ⟨rfl, hz⟩ | ⟨rfl, ht, hr⟩
    · have hz0 : zs.length = 0 := by rw [hz]; rfl
      have hz1 : ((zs.length : Int) == 0) = true := by rw [hz0]; rfl
      clear hz hz0
      go_wp2_with (go_at_call 18; refine (alive_any _).mono ?_; rintro e w' ⟨rfl, rfl⟩)
      go_ret
      exact ⟨rfl, below_of (grownBy_trans G6.out g5)⟩
    · have d1 := tok_any a cap zs w5 (I4b.out.grown g5)
      rw [ht] at d1
      clear ht
      go_wp2_with fail
      refine d1.mono ?_
      rintro e w6 ⟨rfl, g6⟩
      have n7 := g6.cell n5 (by simp)
      have d2 := ireg_any a cap zs w6 (I4b.out.grown (grownBy_trans g5 g6))
      rw [hr] at d2
      clear d1 n5 hr
      by_cases e3 : (n != 3) = true
      · rw [e3] at d2
        by_cases e4 : (n != 4) = true
        · rw [e4] at d2
          go_wp2_with fail
          refine d2.mono ?_
          rintro e w7 ⟨rfl, g7⟩
          clear d2 n7
          go_wp2_with fail
          go_ret
          exact ⟨rfl, below_of (grownBy_trans G6.out (grownBy_trans g5 (grownBy_trans g6 g7)))⟩
        · have e4 : (n != 4) = false := by simpa using e4
          rw [e4] at d2
          go_wp2_with fail
          refine d2.mono ?_
          rintro e w7 ⟨rfl, g7⟩
          clear d2 n7
          go_wp2_with fail
          go_ret
          exact ⟨rfl, below_of (grownBy_trans G6.out (grownBy_trans g5 (grownBy_trans g6 g7)))⟩
      · have e3 : (n != 3) = false := by simpa using e3
        rw [e3] at d2
        go_wp2_with fail
        refine d2.mono ?_
        rintro e w7 ⟨rfl, g7⟩
        clear d2 n7
        go_wp2_with fail
        go_ret
        exact ⟨rfl, below_of (grownBy_trans G6.out (grownBy_trans g5 (grownBy_trans g6 g7)))⟩

end Go.Proofs.Ytbhfbpmfbknalaa
