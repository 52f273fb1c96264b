/-
  The exact laws of chapter 9 but that of RowsMade, out of what the functions answer.
-/
import Derived.Test.YtoaknplfphoiaaaDoorMC
import Derived.Test.YtoaknplfphoiaaaDoorCpI
import Derived.Outline
namespace Go.Proofs.YtoaknplfphoiaaaDoor
open Go.RowKit

theorem saidL_len (n : Int) (l : List UInt8) : (saidL n l).length ≤ 1000 := by
  cases hi : inB n 1 6
  · rw [saidL_o hi]; simp
  · cases ho : fOf l with
    | none => rw [saidL_n ho]; simp
    | some t =>
      obtain ⟨N, rfl, hN⟩ := nat_of hi
      rw [saidL_t ho hi, saidTo_len]
      omega

set_option maxHeartbeats 1000000 in
theorem FnExactSayableOk_of (H : SayC) (a0 : Int) (a1 : Option Addr) (len1 cap1 : Nat) (z1 : List Int) (w : World) (_w0 : (Lit.int .i64 a0).wf = true) (w1 : IsRow .i64 w a1 len1 cap1 z1) (hT : TzAt w) :
    Calls Tryd.prog 7 #[.int .i64 a0, .slice a1 len1 cap1] w fun e w' => e = .returned (.bool true) ∧ Below w.heap.size w w' := by
  have HT := Lib.hid hT
  clear hT
  obtain ⟨xs, rfl, hX⟩ := w1.ints
  clear w1
  have HX := Lib.hid hX
  clear hX
  by_cases hl : (1048576 : Int) < (xs.length : Int)
  · go_enter Tryd.func7, Tryd.ntmps7
    go_wp2_with fail
    go_ret
    exact ⟨rfl, Below.refl _ _⟩
  · have ct := fun w h => toI_any a1 cap1 xs (by omega) w h
    have cs := fun (b : Option Addr) (cb : Nat) => ssay_any a0 b cb xs
    obtain ⟨v, hv⟩ : ∃ v, sayB a0 xs = v := ⟨_, rfl⟩
    rw [hv] at cs
    have hvv : (v != v) = false := by simp
    have Hv := Lib.hid hv
    clear hv
    go_enter Tryd.func7, Tryd.ntmps7
    go_wp2_with fail
    refine (ct _ HX.out).mono ?_
    rintro e w1 ⟨b1, c1, rfl, s1, g1⟩
    have S1 := Lib.hid s1
    clear s1
    go_wp2_with fail
    refine (cs _ _ _ S1.out).mono ?_
    rintro e w2 ⟨rfl, g2⟩
    clear cs S1
    replace g1 := grownBy_trans g1 g2
    go_wp2_with fail
    refine (ct _ (HX.out.grown g1)).mono ?_
    rintro e w3 ⟨b3, c3, rfl, s3, g3⟩
    have ci := say_v H a0 b3 c3 xs Hv.out w3 (HT.out.grown (grownBy_trans g1 g3)) s3
    have S3 := Lib.hid s3
    clear s3
    go_wp2_with fail
    refine ci.mono ?_
    rintro e w4 ⟨rfl, g4⟩
    clear ci
    have g := grownBy_trans g1 (grownBy_trans g3 g4)
    have S4 := Lib.hid (S3.out.grown g4)
    go_wp2_with fail
    refine (ct _ (HX.out.grown g)).mono ?_
    rintro e w5 ⟨b5, c5, rfl, s5, g5⟩
    have ce := eqI_self b3 b5 c3 c5 xs w5 (S4.out.grown g5) s5
    clear s5
    go_wp2_with fail
    refine ce.mono ?_
    rintro e w6 ⟨rfl, g6⟩
    clear ce
    go_wp2_with fail
    go_ret
    exact ⟨rfl, below_of (grownBy_trans g (grownBy_trans g5 g6))⟩

theorem FnExactCountSayable_of (H : ScntC) (a0 : Int) (_w0 : (Lit.int .i64 a0).wf = true) (w : World) (hT : TzAt w) :
    Calls Tryd.prog 8 #[.int .i64 a0] w fun e w' => e = .returned (.bool true) ∧ Below w.heap.size w w' := by
  have HT := Lib.hid hT
  clear hT
  have c1 := fun w => scnt_any a0 w
  have c2 := fun w => scnt_v H a0 (v := scnI a0) rfl w
  generalize scnI a0 = v at *
  have hvv : (v != v) = false := by simp
  go_enter Tryd.func8, Tryd.ntmps8
  go_wp2_with fail
  refine (c1 _).mono ?_
  rintro e w1 ⟨rfl, g1⟩
  clear c1
  go_wp2_with fail
  refine (c2 _ (HT.out.grown g1)).mono ?_
  rintro e w2 ⟨rfl, g2⟩
  clear c2
  go_wp2_with fail
  go_ret
  exact ⟨rfl, below_of (grownBy_trans g1 g2)⟩

end Go.Proofs.YtoaknplfphoiaaaDoor
