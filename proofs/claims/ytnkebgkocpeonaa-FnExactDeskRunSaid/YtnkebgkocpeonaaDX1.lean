/-
  The exact laws of LaidOk and DeskNew: copies of pairs, desks without anything of before.
-/
import Derived.Test.YtnkebgkocpeonaaDWa
import Derived.Test.YtnkebgkocpeonaaDOp
namespace Go.Proofs.Ytnkebgkocpeonaa
open Go.RowKit

theorem szLaid_any (n left : Int) (s : ByteArray) (w : World) (hl : 0 ≤ left ∧ left ≤ 1048576) (hs : s.size ≤ maxLen) :
    Calls Try.prog 32 #[.agg #[.int .i64 n, .string s], .int .i64 left] w fun e w' => e = .returned (.int .i64 (if (s.size : Int) ≤ left then left - s.size else -1)) ∧ w.grownBy w' none := by
  have hg := World.grownBy_alloc w (.cells #[.int .i64 n, .string s] 49) none
  unfold maxLen at hs
  have hw : IntKind.i64.wrap (left - (s.size : Int)) = left - (s.size : Int) := IntWalk.i64_in _ (by omega)
  have hw2 : wrap64 (left - (s.size : Int)) = left - (s.size : Int) := by unfold wrap64; omega
  by_cases h : (s.size : Int) ≤ left
  · rw [if_pos h]
    go_enter Try.func32, Try.ntmps32
    go_wp2
    go_ret
    exact ⟨rfl, hg⟩
  · rw [if_neg h]
    go_enter Try.func32, Try.ntmps32
    go_wp2
    go_ret
    exact ⟨rfl, hg⟩

set_option maxHeartbeats 1000000 in
theorem toLaid_any (n : Int) (s : ByteArray) (w : World) :
    Calls Try.prog 33 #[.agg #[.int .i64 n, .string s]] w fun e w' => e = .returned (.agg #[.int .i64 n, .string s]) ∧ w.grownBy w' none := by
  go_enter Try.func33, Try.ntmps33
  go_wp2
  exact bodyPost_ret (v := .agg #[.int .i64 n, .string s]) (resLd1 rfl _ rfl ((CellsAt.second w _ _ _).grown (World.grownBy_alloc _ _ none))) rfl ⟨rfl, made3 _ _ _ _⟩

set_option maxRecDepth 100000 in
set_option maxHeartbeats 4000000 in
theorem FnExactLaidOk_walk (a0 : Int) (a1 : ByteArray) (w : World) (_w0 : (Lit.int .i64 a0).wf = true) (w1 : a1.size ≤ maxLen) :
    Calls Try.prog 8 #[.agg #[.int .i64 a0, .string a1]] w fun e w' => e = .returned (.bool true) ∧ Below w.heap.size w w' := by
  have c0 := szLaid_any a0 1048576 a1
  have c3 := toLaid_any a0 a1
  have c1 := laid_v (a0, bl a1) (v := ldB (a0, bl a1)) rfl
  have c2 := slaid_v (a0, bl a1) (v := ldB (a0, bl a1)) rfl
  have hvv : (ldB (a0, bl a1) != ldB (a0, bl a1)) = false := by simp
  generalize ldB (a0, bl a1) = v at *
  change ∀ w : World, Calls Try.prog _ #[.agg #[.int .i64 a0, .string a1]] w _ at c1
  change ∀ w : World, Calls Try.prog _ #[.agg #[.int .i64 a0, .string a1]] w _ at c2
  have C0 : ∀ w : World, Calls Try.prog 32 #[.agg #[.int .i64 a0, .string a1], .int .i64 1048576] w fun e w' => e = .returned (.int .i64 (if (a1.size : Int) ≤ 1048576 then 1048576 - a1.size else -1)) ∧ w.grownBy w' none := fun w => c0 w (by omega) w1
  clear c0
  have HX := Lib.hid (CellsAt.new w #[.int .i64 a0, .string a1] 49)
  have gX := Lib.hid (World.grownBy_alloc w (.cells #[.int .i64 a0, .string a1] 49) none)
  by_cases hl : (a1.size : Int) ≤ 1048576
  · rw [if_pos hl] at C0
    have hw2 : 0 ≤ 1048576 - (a1.size : Int) := by omega
    go_enter Try.func8, Try.ntmps8
    go_wp2_with (first | ((with_reducible refine (C0 _).mono ?_); rintro e wa ⟨rfl, ga⟩; obtain ⟨p0, p1⟩ := (HX.out.grown ga).pair2; clear C0) | ((with_reducible refine (c2 _).mono ?_); rintro e wc ⟨rfl, gc⟩; replace ga := grownBy_trans ga gc; obtain ⟨p0, p1⟩ := (HX.out.grown ga).pair2; clear c2) | ((with_reducible refine (c1 _).mono ?_); rintro e we ⟨rfl, ge⟩; clear c1) | ((with_reducible refine (c3 _).mono ?_); rintro e wb ⟨rfl, gb⟩; replace ga := grownBy_trans ga gb; obtain ⟨p0, p1⟩ := (HX.out.grown ga).pair2))
    go_ret
    exact ⟨rfl, below_of (grownBy_trans gX.out (grownBy_trans ga ge))⟩
  · rw [if_neg hl] at C0
    go_enter Try.func8, Try.ntmps8
    go_wp2_with (first | ((with_reducible refine (C0 _).mono ?_); rintro e wa ⟨rfl, ga⟩))
    go_ret
    exact ⟨rfl, below_of (grownBy_trans gX.out ga)⟩

end Go.Proofs.Ytnkebgkocpeonaa
