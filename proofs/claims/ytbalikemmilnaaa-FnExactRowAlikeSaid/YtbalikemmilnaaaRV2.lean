/-
  The walk of the law FnRowOk, out of what the functions answer.
-/
import Derived.Test.YtbalikemmilnaaaRC
import Derived.Test.YtbalikemmilnaaaRDraw3
namespace Go.Proofs.Ytbalikemmilnaaa
open Go.RowKit

theorem mk7_run (w : World) : (Instr.makeSlice 29 (.int .i64 7) (.int .i64 7)).run Try.prog w = .ok (.slice (some ⟨w.heap.size, 0, none⟩) 7 7) (w.alloc (.cells #[.int .i64 0, .int .i64 0, .int .i64 0, .int .i64 0, .int .i64 0, .int .i64 0, .int .i64 0] 3)) := by kernel_rfl
set_option maxRecDepth 100000 in
set_option maxHeartbeats 4000000 in
theorem FnRowOk_of (H : RowC) (a0 : Option Addr) (len0 cap0 : Nat) (z0 : List Int) (w : World) (w0 : IsRow .u8 w a0 len0 cap0 z0) :
    Calls Try.prog 5 #[.slice a0 len0 cap0] w fun e w' => e = .returned (.bool true) ∧ Below w.heap.size w w' := by
  by_cases hl : (1048576 : Int) < (len0 : Int)
  · clear w0
    go_enter Try.func5, Try.ntmps5
    go_wp2_with fail
    go_ret
    exact ⟨rfl, Below.refl _ _⟩
  · go_enter Try.func5, Try.ntmps5
    go_wp2_with fail
    refine (DrawRowOk_any _ _ _ _ _ w0).mono ?_
    rintro e w1 ⟨n, xs, a, ca, rfl, n1, n2, x8, hX, g1⟩
    clear w0
    have HX := Lib.hid hX
    clear hX
    have c1 := rowok_v H n a ca xs (v := rowB n xs) rfl
    have c2 := srow_any n a ca xs
    have c3 : ∀ (w : World) (b : Nat), IntsAt w (some ⟨b, 0, none⟩) [3] → Calls Try.prog 28 #[.int .i64 3, .slice (some ⟨b, 0, none⟩) 1 1] w fun e w' => e = .returned (.bool true) ∧ w.grownBy w' none := fun w b h => rowok_v H 3 (some ⟨b, 0, none⟩) 1 [3] (by decide +kernel) w h
    have c4 : ∀ (w : World) (b : Nat), IntsAt w (some ⟨b, 0, none⟩) [0, 0, 0, 0, 0, 0, 0] → Calls Try.prog 28 #[.int .i64 3, .slice (some ⟨b, 0, none⟩) 7 7] w fun e w' => e = .returned (.bool true) ∧ w.grownBy w' none := fun w b h => rowok_v H 3 (some ⟨b, 0, none⟩) 7 [0, 0, 0, 0, 0, 0, 0] (by decide +kernel) w h
    have c5 : ∀ (w : World) (b : Nat), IntsAt w (some ⟨b, 0, none⟩) [] → Calls Try.prog 28 #[.int .i64 3, .slice (some ⟨b, 0, none⟩) 0 0] w fun e w' => e = .returned (.bool false) ∧ w.grownBy w' none := fun w b h => rowok_v H 3 (some ⟨b, 0, none⟩) 0 [] (by decide +kernel) w h
    have hmk := mk7_run
    generalize rowB n xs = v at *
    have hvv : (v != v) = false := by simp
    go_wp2_with fail
    refine (c1 _ HX.out).mono ?_
    rintro e w2 ⟨rfl, g2⟩
    clear c1
    go_wp2_with fail
    refine (c2 _ (HX.out.grown g2)).mono ?_
    rintro e w3 ⟨rfl, rfl⟩
    clear c2
    go_wp2_with fail
    refine (c3 _ _ (ints_made _ [3] (by decide))).mono ?_
    rintro e w4 ⟨rfl, g4⟩
    clear c3
    go_wp2_with fail
    refine (c4 _ _ (ints_made _ [0, 0, 0, 0, 0, 0, 0] (by decide))).mono ?_
    rintro e w5 ⟨rfl, g5⟩
    clear c4
    go_wp2_with fail
    refine (c5 _ _ (ints_made _ [] (by decide))).mono ?_
    rintro e w6 ⟨rfl, g6⟩
    clear c5
    go_wp2_with (go_at_call 18; refine (alive_any _).mono ?_; rintro e w' ⟨rfl, rfl⟩)
    go_ret
    exact ⟨rfl, below_of (grownBy_trans g1 (grownBy_trans g2 (grownBy_trans (grownBy_trans (World.grownBy_alloc _ _ none) g4) (grownBy_trans (grownBy_trans (World.grownBy_alloc _ _ none) g5) (grownBy_trans (World.grownBy_alloc _ _ none) g6)))))⟩

end Go.Proofs.Ytbalikemmilnaaa
