/-
  The exact laws of chapter 8, out of what the functions answer.
-/
import Derived.Test.YtbalikemmilnaaaRC
import Derived.Test.YtbalikemmilnaaaCpI
namespace Go.Proofs.Ytbalikemmilnaaa
open Go.RowKit

theorem FarC.at (H : FarC) (n a b : Int) (w : World) : Calls Try.prog 16 #[.int .i64 n, .int .i64 a, .int .i64 b] w fun e w' => e = .returned (.int .i64 (farW n a b)) ∧ w.grownBy w' none := H n a b w
theorem AlkC.at (H : AlkC) (n a b : Int) (w : World) : Calls Try.prog 24 #[.int .i64 n, .int .i64 a, .int .i64 b] w fun e w' => e = .returned (.int .i64 (alkW n a b)) ∧ w.grownBy w' none := H n a b w

theorem FnExactFarOf_of (H : FarC) (a0 : Int) (a1 : Int) (a2 : Int) (_w0 : (Lit.int .i64 a0).wf = true) (_w1 : (Lit.int .i64 a1).wf = true) (_w2 : (Lit.int .i64 a2).wf = true) (w : World) :
    Calls Try.prog 9 #[.int .i64 a0, .int .i64 a1, .int .i64 a2] w fun e w' => e = .returned (.bool true) ∧ Below w.heap.size w w' := by
  have c1 := sfar_any a0 a1 a2
  have c2 := H.at a0 a1 a2
  generalize farW a0 a1 a2 = v at *
  have hvv : (v != v) = false := by simp
  go_enter Try.func9, Try.ntmps9
  go_wp2_with fail
  refine (c1 _).mono ?_
  rintro e w1 ⟨rfl, rfl⟩
  clear c1
  go_wp2_with fail
  refine (c2 _).mono ?_
  rintro e w2 ⟨rfl, g2⟩
  clear c2
  go_wp2_with fail
  go_ret
  exact ⟨rfl, below_of g2⟩

theorem FnExactAlikeOf_of (H : AlkC) (a0 : Int) (a1 : Int) (a2 : Int) (_w0 : (Lit.int .i64 a0).wf = true) (_w1 : (Lit.int .i64 a1).wf = true) (_w2 : (Lit.int .i64 a2).wf = true) (w : World) :
    Calls Try.prog 10 #[.int .i64 a0, .int .i64 a1, .int .i64 a2] w fun e w' => e = .returned (.bool true) ∧ Below w.heap.size w w' := by
  have c1 := salk_any a0 a1 a2
  have c2 := H.at a0 a1 a2
  generalize alkW a0 a1 a2 = v at *
  have hvv : (v != v) = false := by simp
  go_enter Try.func10, Try.ntmps10
  go_wp2_with fail
  refine (c1 _).mono ?_
  rintro e w1 ⟨rfl, rfl⟩
  clear c1
  go_wp2_with fail
  refine (c2 _).mono ?_
  rintro e w2 ⟨rfl, g2⟩
  clear c2
  go_wp2_with fail
  go_ret
  exact ⟨rfl, below_of g2⟩

theorem FnExactMovesOf_of (H : MovC) (a0 : Int) (a1 : ByteArray) (_w0 : (Lit.int .i64 a0).wf = true) (_w1 : a1.size ≤ maxLen) (w : World) :
    Calls Try.prog 14 #[.int .i64 a0, .string a1] w fun e w' => e = .returned (.bool true) ∧ Below w.heap.size w w' := by
  by_cases hl : (1048576 : Int) < (a1.size : Int)
  · go_enter Try.func14, Try.ntmps14
    go_wp2_with fail
    go_ret
    exact ⟨rfl, Below.refl _ _⟩
  · have c1 := smov_any a0 a1
    have c2 := mov_v H a0 a1 (v := movI a0 (bl a1)) rfl
    generalize movI a0 (bl a1) = v at *
    have hvv : (v != v) = false := by simp
    go_enter Try.func14, Try.ntmps14
    go_wp2_with fail
    refine (c1 _).mono ?_
    rintro e w1 ⟨rfl, g1⟩
    clear c1
    go_wp2_with fail
    refine (c2 _).mono ?_
    rintro e w2 ⟨rfl, g2⟩
    clear c2
    go_wp2_with fail
    go_ret
    exact ⟨rfl, below_of (grownBy_trans g1 g2)⟩

set_option maxHeartbeats 1000000 in
theorem FnExactRowOk_of (H : RowC) (a0 : Int) (a1 : Option Addr) (len1 cap1 : Nat) (z1 : List Int) (w : World) (_w0 : (Lit.int .i64 a0).wf = true) (w1 : IsRow .i64 w a1 len1 cap1 z1) :
    Calls Try.prog 11 #[.int .i64 a0, .slice a1 len1 cap1] w fun e w' => e = .returned (.bool true) ∧ Below w.heap.size w w' := by
  obtain ⟨xs, rfl, hX⟩ := w1.ints
  clear w1
  have HX := Lib.hid hX
  clear hX
  by_cases hl : (1048576 : Int) < (xs.length : Int)
  · go_enter Try.func11, Try.ntmps11
    go_wp2_with fail
    go_ret
    exact ⟨rfl, Below.refl _ _⟩
  · have ct := fun w h => toI_any a1 cap1 xs (by omega) w h
    obtain ⟨v, hv⟩ : ∃ v, rowB a0 xs = v := ⟨_, rfl⟩
    have hvv : (v != v) = false := by simp
    have Hv := Lib.hid hv
    clear hv
    go_enter Try.func11, Try.ntmps11
    go_wp2_with fail
    refine (ct _ HX.out).mono ?_
    rintro e w1 ⟨b1, c1, rfl, s1, g1⟩
    have cq := srow_is a0 b1 c1 xs Hv.out w1 s1
    clear s1
    go_wp2_with fail
    refine cq.mono ?_
    rintro e w2 ⟨rfl, rfl⟩
    clear cq
    go_wp2_with fail
    refine (ct _ (HX.out.grown g1)).mono ?_
    rintro e w3 ⟨b3, c3, rfl, s3, g3⟩
    have ci := rowok_v H a0 b3 c3 xs Hv.out w3 s3
    have S3 := Lib.hid s3
    clear s3
    go_wp2_with fail
    refine ci.mono ?_
    rintro e w4 ⟨rfl, g4⟩
    clear ci
    have g := grownBy_trans g1 (grownBy_trans g3 g4)
    have s4 := S3.out.grown g4
    have S4 := Lib.hid s4
    clear s4
    go_wp2_with fail
    refine (ct _ (HX.out.grown g)).mono ?_
    rintro e w5 ⟨b5, c5, rfl, s5, g5⟩
    have ce := eqI_self b3 b5 c3 c5 xs w5 (S4.out.grown g5) s5
    clear s5
    go_wp2_with fail
    refine ce.mono ?_
    rintro e w6 ⟨rfl, g6⟩
    clear ce
    go_wp2_with fail
    go_ret
    exact ⟨rfl, below_of (grownBy_trans g (grownBy_trans g5 g6))⟩

set_option maxHeartbeats 2000000 in
theorem FnExactRowFar_of (H : RfarC) (a0 : Int) (a1 : Option Addr) (len1 cap1 : Nat) (z1 : List Int) (a2 : Option Addr) (len2 cap2 : Nat) (z2 : List Int) (w : World) (_w0 : (Lit.int .i64 a0).wf = true) (w1 : IsRow .i64 w a1 len1 cap1 z1) (w2 : IsRow .i64 w a2 len2 cap2 z2) :
    Calls Try.prog 12 #[.int .i64 a0, .slice a1 len1 cap1, .slice a2 len2 cap2] w fun e w' => e = .returned (.bool true) ∧ Below w.heap.size w w' := by
  obtain ⟨x, rfl, hX⟩ := w1.ints
  obtain ⟨y, rfl, hY⟩ := w2.ints
  clear w1 w2
  have HX := Lib.hid hX
  have HY := Lib.hid hY
  clear hX hY
  by_cases hl : (1048576 : Int) < (x.length : Int)
  · go_enter Try.func12, Try.ntmps12
    go_wp2_with fail
    go_ret
    exact ⟨rfl, Below.refl _ _⟩
  by_cases hl2 : (1048576 : Int) < (y.length : Int)
  · go_enter Try.func12, Try.ntmps12
    go_wp2_with fail
    go_ret
    exact ⟨rfl, Below.refl _ _⟩
  · have cx := fun w h => toI_any a1 cap1 x (by omega) w h
    have cy := fun w h => toI_any a2 cap2 y (by omega) w h
    have cs := fun (b d : Option Addr) (cb cd : Nat) => srfar_any a0 b d cb cd x y
    obtain ⟨v, hv⟩ : ∃ v, rfarW a0 x y = v := ⟨_, rfl⟩
    rw [hv] at cs
    have hvv : (v != v) = false := by simp
    have Hv := Lib.hid hv
    clear hv
    go_enter Try.func12, Try.ntmps12
    go_wp2_with fail
    refine (cx _ HX.out).mono ?_
    rintro e w1 ⟨b1, c1, rfl, s1, g1⟩
    have S1 := Lib.hid s1
    clear s1
    go_wp2_with fail
    refine (cy _ (HY.out.grown g1)).mono ?_
    rintro e w2 ⟨b2, c2, rfl, s2, g2⟩
    have S2 := Lib.hid s2
    clear s2
    go_wp2_with fail
    refine (cs _ _ _ _ _ (S1.out.grown g2) S2.out).mono ?_
    rintro e w3 ⟨rfl, g3⟩
    clear cs S1 S2
    have g := grownBy_trans g1 (grownBy_trans g2 g3)
    clear g1 g2 g3
    go_wp2_with fail
    refine (cx _ (HX.out.grown g)).mono ?_
    rintro e w4 ⟨b4, c4, rfl, s4, g4⟩
    have S4 := Lib.hid s4
    clear s4
    replace g := grownBy_trans g g4
    go_wp2_with fail
    refine (cy _ (HY.out.grown g)).mono ?_
    rintro e w5 ⟨b5, c5, rfl, s5, g5⟩
    have S5 := Lib.hid s5
    clear s5
    replace g := grownBy_trans g g5
    have ci := rfar_v H a0 b4 b5 c4 c5 x y Hv.out w5 (S4.out.grown g5) S5.out
    go_wp2_with fail
    refine ci.mono ?_
    rintro e w6 ⟨rfl, g6⟩
    clear ci
    replace g := grownBy_trans g g6
    go_wp2_with fail
    refine (cx _ (HX.out.grown g)).mono ?_
    rintro e w7 ⟨b7, c7, rfl, s7, g7⟩
    replace g := grownBy_trans g g7
    have ce := eqI_self b4 b7 c4 c7 x w7 (S4.out.grown (grownBy_trans g5 (grownBy_trans g6 g7))) s7
    clear s7
    go_wp2_with fail
    refine ce.mono ?_
    rintro e w8 ⟨rfl, g8⟩
    clear ce
    replace g := grownBy_trans g g8
    go_wp2_with fail
    refine (cy _ (HY.out.grown g)).mono ?_
    rintro e w9 ⟨b9, c9, rfl, s9, g9⟩
    replace g := grownBy_trans g g9
    have ce := eqI_self b5 b9 c5 c9 y w9 (S5.out.grown (grownBy_trans g6 (grownBy_trans g7 (grownBy_trans g8 g9)))) s9
    clear s9
    go_wp2_with fail
    refine ce.mono ?_
    rintro e w10 ⟨rfl, g10⟩
    clear ce
    replace g := grownBy_trans g g10
    go_wp2_with fail
    go_ret
    exact ⟨rfl, below_of g⟩

set_option maxHeartbeats 2000000 in
theorem FnExactRowAlike_of (H : RalkC) (a0 : Int) (a1 : Option Addr) (len1 cap1 : Nat) (z1 : List Int) (a2 : Option Addr) (len2 cap2 : Nat) (z2 : List Int) (w : World) (_w0 : (Lit.int .i64 a0).wf = true) (w1 : IsRow .i64 w a1 len1 cap1 z1) (w2 : IsRow .i64 w a2 len2 cap2 z2) :
    Calls Try.prog 13 #[.int .i64 a0, .slice a1 len1 cap1, .slice a2 len2 cap2] w fun e w' => e = .returned (.bool true) ∧ Below w.heap.size w w' := by
  obtain ⟨x, rfl, hX⟩ := w1.ints
  obtain ⟨y, rfl, hY⟩ := w2.ints
  clear w1 w2
  have HX := Lib.hid hX
  have HY := Lib.hid hY
  clear hX hY
  by_cases hl : (1048576 : Int) < (x.length : Int)
  · go_enter Try.func13, Try.ntmps13
    go_wp2_with fail
    go_ret
    exact ⟨rfl, Below.refl _ _⟩
  by_cases hl2 : (1048576 : Int) < (y.length : Int)
  · go_enter Try.func13, Try.ntmps13
    go_wp2_with fail
    go_ret
    exact ⟨rfl, Below.refl _ _⟩
  · have cx := fun w h => toI_any a1 cap1 x (by omega) w h
    have cy := fun w h => toI_any a2 cap2 y (by omega) w h
    have cs := fun (b d : Option Addr) (cb cd : Nat) => sralk_any a0 b d cb cd x y
    obtain ⟨v, hv⟩ : ∃ v, ralkW a0 x y = v := ⟨_, rfl⟩
    rw [hv] at cs
    have hvv : (v != v) = false := by simp
    have Hv := Lib.hid hv
    clear hv
    go_enter Try.func13, Try.ntmps13
    go_wp2_with fail
    refine (cx _ HX.out).mono ?_
    rintro e w1 ⟨b1, c1, rfl, s1, g1⟩
    have S1 := Lib.hid s1
    clear s1
    go_wp2_with fail
    refine (cy _ (HY.out.grown g1)).mono ?_
    rintro e w2 ⟨b2, c2, rfl, s2, g2⟩
    have S2 := Lib.hid s2
    clear s2
    go_wp2_with fail
    refine (cs _ _ _ _ _ (S1.out.grown g2) S2.out).mono ?_
    rintro e w3 ⟨rfl, g3⟩
    clear cs S1 S2
    have g := grownBy_trans g1 (grownBy_trans g2 g3)
    clear g1 g2 g3
    go_wp2_with fail
    refine (cx _ (HX.out.grown g)).mono ?_
    rintro e w4 ⟨b4, c4, rfl, s4, g4⟩
    have S4 := Lib.hid s4
    clear s4
    replace g := grownBy_trans g g4
    go_wp2_with fail
    refine (cy _ (HY.out.grown g)).mono ?_
    rintro e w5 ⟨b5, c5, rfl, s5, g5⟩
    have S5 := Lib.hid s5
    clear s5
    replace g := grownBy_trans g g5
    have ci := ralk_v H a0 b4 b5 c4 c5 x y Hv.out w5 (S4.out.grown g5) S5.out
    go_wp2_with fail
    refine ci.mono ?_
    rintro e w6 ⟨rfl, g6⟩
    clear ci
    replace g := grownBy_trans g g6
    go_wp2_with fail
    refine (cx _ (HX.out.grown g)).mono ?_
    rintro e w7 ⟨b7, c7, rfl, s7, g7⟩
    replace g := grownBy_trans g g7
    have ce := eqI_self b4 b7 c4 c7 x w7 (S4.out.grown (grownBy_trans g5 (grownBy_trans g6 g7))) s7
    clear s7
    go_wp2_with fail
    refine ce.mono ?_
    rintro e w8 ⟨rfl, g8⟩
    clear ce
    replace g := grownBy_trans g g8
    go_wp2_with fail
    refine (cy _ (HY.out.grown g)).mono ?_
    rintro e w9 ⟨b9, c9, rfl, s9, g9⟩
    replace g := grownBy_trans g g9
    have ce := eqI_self b5 b9 c5 c9 y w9 (S5.out.grown (grownBy_trans g6 (grownBy_trans g7 (grownBy_trans g8 g9)))) s9
    clear s9
    go_wp2_with fail
    refine ce.mono ?_
    rintro e w10 ⟨rfl, g10⟩
    clear ce
    replace g := grownBy_trans g g10
    go_wp2_with fail
    go_ret
    exact ⟨rfl, below_of g⟩

end Go.Proofs.Ytbalikemmilnaaa
