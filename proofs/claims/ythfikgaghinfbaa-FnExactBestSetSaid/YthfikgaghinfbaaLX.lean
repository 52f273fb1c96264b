/-
  The exact laws of chapter 11.
-/
import Derived.Test.YthfikgaghinfbaaLCp
import Derived.Test.YthfikgaghinfbaaLEno
import Derived.Test.YthfikgaghinfbaaLWei2
namespace Go.Proofs.Ythfikgaghinfbaa
open Go.RowKit

set_option maxHeartbeats 2000000 in
theorem FnExactGameOk_walk (a0 : Int) (a1 : Option Addr) (len1 cap1 : Nat) (z1 : List Int) (w : World) (_w0 : (Lit.int .i64 a0).wf = true) (w1 : IsRow .i64 w a1 len1 cap1 z1) :
    Calls Try.prog 10 #[.int .i64 a0, .slice a1 len1 cap1] w fun e w' => e = .returned (.bool true) ∧ Below w.heap.size w w' := by
  obtain ⟨xs, rfl, hX⟩ := w1.lints
  clear w1
  have HX := Lib.hid hX
  clear hX
  by_cases hl : (1048576 : Int) < (xs.length : Int)
  · go_enter Try.func10, Try.ntmps10
    go_wp2_with fail
    go_ret
    exact ⟨rfl, Below.refl _ _⟩
  · have hm : xs.length ≤ maxLen := by unfold maxLen; omega
    have HM := Lib.hid hm
    clear hm
    have ct := fun w h => ltoI_any a1 cap1 xs (by omega) w h
    have cs : ∀ (b : Option Addr) (c : Nat) (w : World), IntsAt w b xs → Calls Try.prog 19 #[.int .i64 a0, .slice b xs.length c] w fun e w' => e = .returned (.bool (gameB a0 xs)) ∧ w.grownBy w' none := fun b c w h => (sgame_any a0 b c xs w h).mono fun _ _ p => ⟨p.1, by rw [p.2]; exact grownBy_refl _ _⟩
    have ci : ∀ (b : Option Addr) (c : Nat) (w : World), IntsAt w b xs → Calls Try.prog 18 #[.int .i64 a0, .slice b xs.length c] w fun e w' => e = .returned (.bool (gameB a0 xs)) ∧ w.grownBy w' none := fun b c w h => igame_any a0 b c xs w h
    generalize gameB a0 xs = v at *
    have hvv : (v != v) = false := by simp
    go_enter Try.func10, Try.ntmps10
    go_wp2_with fail
    refine (ct _ HX.out).mono ?_
    rintro e w1 ⟨b1, c1, rfl, s1, g1⟩
    have cq := cs b1 c1 w1 (s1.at HM.out)
    clear s1 cs
    go_wp2_with fail
    refine cq.mono ?_
    rintro e w2 ⟨rfl, g2⟩
    clear cq
    have G2 := Lib.hid (grownBy_trans g1 g2)
    clear g1 g2
    go_wp2_with fail
    refine (ct _ (HX.out.grown G2.out)).mono ?_
    rintro e w3 ⟨b3, c3, rfl, s3, g3⟩
    have S3 := Lib.hid (s3.at HM.out)
    have cq := ci b3 c3 w3 S3.out
    have G3 := Lib.hid (grownBy_trans G2.out g3)
    clear s3 ci g3
    go_wp2_with fail
    refine cq.mono ?_
    rintro e w4 ⟨rfl, g4⟩
    clear cq
    have G4 := Lib.hid (grownBy_trans G3.out g4)
    have S4 := Lib.hid (S3.out.grown g4)
    clear g4
    go_wp2_with fail
    refine (ct _ (HX.out.grown G4.out)).mono ?_
    rintro e w5 ⟨b5, c5, rfl, s5, g5⟩
    have ce := leqI_self b3 b5 c3 c5 xs w5 (S4.out.grown g5) (s5.at HM.out)
    clear s5 ct
    go_wp2_with fail
    refine ce.mono ?_
    rintro e w6 ⟨rfl, g6⟩
    clear ce
    go_wp2_with fail
    go_ret
    exact ⟨rfl, below_of (grownBy_trans G4.out (grownBy_trans g5 g6))⟩

set_option maxHeartbeats 2000000 in
theorem FnExactLeftOf_walk (a0 : Int) (a1 : Option Addr) (len1 cap1 : Nat) (z1 : List Int) (w : World) (_w0 : (Lit.int .i64 a0).wf = true) (w1 : IsRow .i64 w a1 len1 cap1 z1) :
    Calls Try.prog 12 #[.int .i64 a0, .slice a1 len1 cap1] w fun e w' => e = .returned (.bool true) ∧ Below w.heap.size w w' := by
  obtain ⟨xs, rfl, hX⟩ := w1.lints
  clear w1
  have HX := Lib.hid hX
  clear hX
  by_cases hl : (1048576 : Int) < (xs.length : Int)
  · go_enter Try.func12, Try.ntmps12
    go_wp2_with fail
    go_ret
    exact ⟨rfl, Below.refl _ _⟩
  · have hm : xs.length ≤ maxLen := by unfold maxLen; omega
    have HM := Lib.hid hm
    clear hm
    have ct := fun w h => ltoI_any a1 cap1 xs (by omega) w h
    have cs : ∀ (b : Option Addr) (c : Nat) (w : World), IntsAt w b xs → Calls Try.prog 28 #[.int .i64 a0, .slice b xs.length c] w fun e w' => e = .returned (.int .i64 (leftW a0 xs)) ∧ w.grownBy w' none := fun b c w h => (sleft_any a0 b c xs w h).mono fun _ _ p => ⟨p.1, by rw [p.2]; exact grownBy_refl _ _⟩
    have ci : ∀ (b : Option Addr) (c : Nat) (w : World), IntsAt w b xs → Calls Try.prog 27 #[.int .i64 a0, .slice b xs.length c] w fun e w' => e = .returned (.int .i64 (leftW a0 xs)) ∧ w.grownBy w' none := fun b c w h => ileft_any a0 b c xs w h
    generalize leftW a0 xs = v at *
    have hvv : (v != v) = false := by simp
    go_enter Try.func12, Try.ntmps12
    go_wp2_with fail
    refine (ct _ HX.out).mono ?_
    rintro e w1 ⟨b1, c1, rfl, s1, g1⟩
    have cq := cs b1 c1 w1 (s1.at HM.out)
    clear s1 cs
    go_wp2_with fail
    refine cq.mono ?_
    rintro e w2 ⟨rfl, g2⟩
    clear cq
    have G2 := Lib.hid (grownBy_trans g1 g2)
    clear g1 g2
    go_wp2_with fail
    refine (ct _ (HX.out.grown G2.out)).mono ?_
    rintro e w3 ⟨b3, c3, rfl, s3, g3⟩
    have S3 := Lib.hid (s3.at HM.out)
    have cq := ci b3 c3 w3 S3.out
    have G3 := Lib.hid (grownBy_trans G2.out g3)
    clear s3 ci g3
    go_wp2_with fail
    refine cq.mono ?_
    rintro e w4 ⟨rfl, g4⟩
    clear cq
    have G4 := Lib.hid (grownBy_trans G3.out g4)
    have S4 := Lib.hid (S3.out.grown g4)
    clear g4
    go_wp2_with fail
    refine (ct _ (HX.out.grown G4.out)).mono ?_
    rintro e w5 ⟨b5, c5, rfl, s5, g5⟩
    have ce := leqI_self b3 b5 c3 c5 xs w5 (S4.out.grown g5) (s5.at HM.out)
    clear s5 ct
    go_wp2_with fail
    refine ce.mono ?_
    rintro e w6 ⟨rfl, g6⟩
    clear ce
    go_wp2_with fail
    go_ret
    exact ⟨rfl, below_of (grownBy_trans G4.out (grownBy_trans g5 g6))⟩

set_option maxHeartbeats 2000000 in
theorem FnExactWeightOf_walk (a0 : Int) (a1 : Option Addr) (len1 cap1 : Nat) (z1 : List Int) (a2 : Int) (w : World) (_w0 : (Lit.int .i64 a0).wf = true) (w1 : IsRow .i64 w a1 len1 cap1 z1) (_w2 : (Lit.int .i64 a2).wf = true) :
    Calls Try.prog 13 #[.int .i64 a0, .slice a1 len1 cap1, .int .i64 a2] w fun e w' => e = .returned (.bool true) ∧ Below w.heap.size w w' := by
  obtain ⟨xs, rfl, hX⟩ := w1.lints
  clear w1
  have HX := Lib.hid hX
  clear hX
  by_cases hl : (1048576 : Int) < (xs.length : Int)
  · go_enter Try.func13, Try.ntmps13
    go_wp2_with fail
    go_ret
    exact ⟨rfl, Below.refl _ _⟩
  · have hm : xs.length ≤ maxLen := by unfold maxLen; omega
    have HM := Lib.hid hm
    clear hm
    have ct := fun w h => ltoI_any a1 cap1 xs (by omega) w h
    have cs : ∀ (b : Option Addr) (c : Nat) (w : World), IntsAt w b xs → Calls Try.prog 31 #[.int .i64 a0, .slice b xs.length c, .int .i64 a2] w fun e w' => e = .returned (.int .i64 (weightW a0 xs a2)) ∧ w.grownBy w' none := fun b c w h => (sweight_any a0 b c xs a2 w h).mono fun _ _ p => ⟨p.1, by rw [p.2]; exact grownBy_refl _ _⟩
    have ci : ∀ (b : Option Addr) (c : Nat) (w : World), IntsAt w b xs → Calls Try.prog 30 #[.int .i64 a0, .slice b xs.length c, .int .i64 a2] w fun e w' => e = .returned (.int .i64 (weightW a0 xs a2)) ∧ w.grownBy w' none := fun b c w h => iweight_any a0 b c xs a2 w h
    generalize weightW a0 xs a2 = v at *
    have hvv : (v != v) = false := by simp
    go_enter Try.func13, Try.ntmps13
    go_wp2_with fail
    refine (ct _ HX.out).mono ?_
    rintro e w1 ⟨b1, c1, rfl, s1, g1⟩
    have cq := cs b1 c1 w1 (s1.at HM.out)
    clear s1 cs
    go_wp2_with fail
    refine cq.mono ?_
    rintro e w2 ⟨rfl, g2⟩
    clear cq
    have G2 := Lib.hid (grownBy_trans g1 g2)
    clear g1 g2
    go_wp2_with fail
    refine (ct _ (HX.out.grown G2.out)).mono ?_
    rintro e w3 ⟨b3, c3, rfl, s3, g3⟩
    have S3 := Lib.hid (s3.at HM.out)
    have cq := ci b3 c3 w3 S3.out
    have G3 := Lib.hid (grownBy_trans G2.out g3)
    clear s3 ci g3
    go_wp2_with fail
    refine cq.mono ?_
    rintro e w4 ⟨rfl, g4⟩
    clear cq
    have G4 := Lib.hid (grownBy_trans G3.out g4)
    have S4 := Lib.hid (S3.out.grown g4)
    clear g4
    go_wp2_with fail
    refine (ct _ (HX.out.grown G4.out)).mono ?_
    rintro e w5 ⟨b5, c5, rfl, s5, g5⟩
    have ce := leqI_self b3 b5 c3 c5 xs w5 (S4.out.grown g5) (s5.at HM.out)
    clear s5 ct
    go_wp2_with fail
    refine ce.mono ?_
    rintro e w6 ⟨rfl, g6⟩
    clear ce
    go_wp2_with fail
    go_ret
    exact ⟨rfl, below_of (grownBy_trans G4.out (grownBy_trans g5 g6))⟩

set_option maxHeartbeats 2000000 in
theorem FnExactEnoughOk_walk (a0 : Int) (a1 : Option Addr) (len1 cap1 : Nat) (z1 : List Int) (a2 : Int) (w : World) (_w0 : (Lit.int .i64 a0).wf = true) (w1 : IsRow .i64 w a1 len1 cap1 z1) (_w2 : (Lit.int .i64 a2).wf = true) :
    Calls Try.prog 14 #[.int .i64 a0, .slice a1 len1 cap1, .int .i64 a2] w fun e w' => e = .returned (.bool true) ∧ Below w.heap.size w w' := by
  obtain ⟨xs, rfl, hX⟩ := w1.lints
  clear w1
  have HX := Lib.hid hX
  clear hX
  by_cases hl : (1048576 : Int) < (xs.length : Int)
  · go_enter Try.func14, Try.ntmps14
    go_wp2_with fail
    go_ret
    exact ⟨rfl, Below.refl _ _⟩
  · have hm : xs.length ≤ maxLen := by unfold maxLen; omega
    have HM := Lib.hid hm
    clear hm
    have ct := fun w h => ltoI_any a1 cap1 xs (by omega) w h
    have cs : ∀ (b : Option Addr) (c : Nat) (w : World), IntsAt w b xs → Calls Try.prog 34 #[.int .i64 a0, .slice b xs.length c, .int .i64 a2] w fun e w' => e = .returned (.bool (enW a0 xs a2)) ∧ w.grownBy w' none := fun b c w h => senough_any a0 b c xs a2 w h
    have ci : ∀ (b : Option Addr) (c : Nat) (w : World), IntsAt w b xs → Calls Try.prog 33 #[.int .i64 a0, .slice b xs.length c, .int .i64 a2] w fun e w' => e = .returned (.bool (enW a0 xs a2)) ∧ w.grownBy w' none := fun b c w h => ienough_any a0 b c xs a2 w h
    generalize enW a0 xs a2 = v at *
    have hvv : (v != v) = false := by simp
    go_enter Try.func14, Try.ntmps14
    go_wp2_with fail
    refine (ct _ HX.out).mono ?_
    rintro e w1 ⟨b1, c1, rfl, s1, g1⟩
    have cq := cs b1 c1 w1 (s1.at HM.out)
    clear s1 cs
    go_wp2_with fail
    refine cq.mono ?_
    rintro e w2 ⟨rfl, g2⟩
    clear cq
    have G2 := Lib.hid (grownBy_trans g1 g2)
    clear g1 g2
    go_wp2_with fail
    refine (ct _ (HX.out.grown G2.out)).mono ?_
    rintro e w3 ⟨b3, c3, rfl, s3, g3⟩
    have S3 := Lib.hid (s3.at HM.out)
    have cq := ci b3 c3 w3 S3.out
    have G3 := Lib.hid (grownBy_trans G2.out g3)
    clear s3 ci g3
    go_wp2_with fail
    refine cq.mono ?_
    rintro e w4 ⟨rfl, g4⟩
    clear cq
    have G4 := Lib.hid (grownBy_trans G3.out g4)
    have S4 := Lib.hid (S3.out.grown g4)
    clear g4
    go_wp2_with fail
    refine (ct _ (HX.out.grown G4.out)).mono ?_
    rintro e w5 ⟨b5, c5, rfl, s5, g5⟩
    have ce := leqI_self b3 b5 c3 c5 xs w5 (S4.out.grown g5) (s5.at HM.out)
    clear s5 ct
    go_wp2_with fail
    refine ce.mono ?_
    rintro e w6 ⟨rfl, g6⟩
    clear ce
    go_wp2_with fail
    go_ret
    exact ⟨rfl, below_of (grownBy_trans G4.out (grownBy_trans g5 g6))⟩

set_option maxHeartbeats 2000000 in
theorem FnExactFewestOf_walk (a0 : Int) (a1 : Option Addr) (len1 cap1 : Nat) (z1 : List Int) (w : World) (_w0 : (Lit.int .i64 a0).wf = true) (w1 : IsRow .i64 w a1 len1 cap1 z1) :
    Calls Try.prog 15 #[.int .i64 a0, .slice a1 len1 cap1] w fun e w' => e = .returned (.bool true) ∧ Below w.heap.size w w' := by
  obtain ⟨xs, rfl, hX⟩ := w1.lints
  clear w1
  have HX := Lib.hid hX
  clear hX
  by_cases hl : (1048576 : Int) < (xs.length : Int)
  · go_enter Try.func15, Try.ntmps15
    go_wp2_with fail
    go_ret
    exact ⟨rfl, Below.refl _ _⟩
  · have hm : xs.length ≤ maxLen := by unfold maxLen; omega
    have HM := Lib.hid hm
    clear hm
    have ct := fun w h => ltoI_any a1 cap1 xs (by omega) w h
    have cs : ∀ (b : Option Addr) (c : Nat) (w : World), IntsAt w b xs → Calls Try.prog 37 #[.int .i64 a0, .slice b xs.length c] w fun e w' => e = .returned (.tuple #[.int .i64 (fewW a0 xs), .bool (gameB a0 xs)]) ∧ w.grownBy w' none := fun b c w h => sfewest_any a0 b c xs w h
    have ci : ∀ (b : Option Addr) (c : Nat) (w : World), IntsAt w b xs → Calls Try.prog 36 #[.int .i64 a0, .slice b xs.length c] w fun e w' => e = .returned (.tuple #[.int .i64 (fewW a0 xs), .bool (gameB a0 xs)]) ∧ w.grownBy w' none := fun b c w h => ifewest_any a0 b c xs w h
    generalize (fewW a0 xs) = v at *
    generalize (gameB a0 xs) = u at *
    have hvv : (v != v) = false := by simp
    have huu : (u != u) = false := by simp
    go_enter Try.func15, Try.ntmps15
    go_wp2_with fail
    refine (ct _ HX.out).mono ?_
    rintro e w1 ⟨b1, c1, rfl, s1, g1⟩
    have cq := cs b1 c1 w1 (s1.at HM.out)
    clear s1 cs
    go_wp2_with fail
    refine cq.mono ?_
    rintro e w2 ⟨rfl, g2⟩
    clear cq
    have G2 := Lib.hid (grownBy_trans g1 g2)
    clear g1 g2
    go_wp2_with fail
    refine (ct _ (HX.out.grown G2.out)).mono ?_
    rintro e w3 ⟨b3, c3, rfl, s3, g3⟩
    have S3 := Lib.hid (s3.at HM.out)
    have cq := ci b3 c3 w3 S3.out
    have G3 := Lib.hid (grownBy_trans G2.out g3)
    clear s3 ci g3
    go_wp2_with fail
    refine cq.mono ?_
    rintro e w4 ⟨rfl, g4⟩
    clear cq
    have G4 := Lib.hid (grownBy_trans G3.out g4)
    have S4 := Lib.hid (S3.out.grown g4)
    clear g4
    go_wp2_with fail
    refine (ct _ (HX.out.grown G4.out)).mono ?_
    rintro e w5 ⟨b5, c5, rfl, s5, g5⟩
    have ce := leqI_self b3 b5 c3 c5 xs w5 (S4.out.grown g5) (s5.at HM.out)
    clear s5 ct
    go_wp2_with fail
    refine ce.mono ?_
    rintro e w6 ⟨rfl, g6⟩
    clear ce
    go_wp2_with fail
    go_ret
    exact ⟨rfl, below_of (grownBy_trans G4.out (grownBy_trans g5 g6))⟩

set_option maxHeartbeats 2000000 in
theorem FnExactBestSet_walk (a0 : Int) (a1 : Option Addr) (len1 cap1 : Nat) (z1 : List Int) (w : World) (_w0 : (Lit.int .i64 a0).wf = true) (w1 : IsRow .i64 w a1 len1 cap1 z1) :
    Calls Try.prog 16 #[.int .i64 a0, .slice a1 len1 cap1] w fun e w' => e = .returned (.bool true) ∧ Below w.heap.size w w' := by
  obtain ⟨xs, rfl, hX⟩ := w1.lints
  clear w1
  have HX := Lib.hid hX
  clear hX
  by_cases hl : (1048576 : Int) < (xs.length : Int)
  · go_enter Try.func16, Try.ntmps16
    go_wp2_with fail
    go_ret
    exact ⟨rfl, Below.refl _ _⟩
  · have hm : xs.length ≤ maxLen := by unfold maxLen; omega
    have HM := Lib.hid hm
    clear hm
    have ct := fun w h => ltoI_any a1 cap1 xs (by omega) w h
    have cs : ∀ (b : Option Addr) (c : Nat) (w : World), IntsAt w b xs → Calls Try.prog 40 #[.int .i64 a0, .slice b xs.length c] w fun e w' => e = .returned (.tuple #[.int .i64 (bestW a0 xs), .bool (bestOk a0 xs)]) ∧ w.grownBy w' none := fun b c w h => sbest_any a0 b c xs w h
    have ci : ∀ (b : Option Addr) (c : Nat) (w : World), IntsAt w b xs → Calls Try.prog 39 #[.int .i64 a0, .slice b xs.length c] w fun e w' => e = .returned (.tuple #[.int .i64 (bestW a0 xs), .bool (bestOk a0 xs)]) ∧ w.grownBy w' none := fun b c w h => ibest_any a0 b c xs w h
    generalize (bestW a0 xs) = v at *
    generalize (bestOk a0 xs) = u at *
    have hvv : (v != v) = false := by simp
    have huu : (u != u) = false := by simp
    go_enter Try.func16, Try.ntmps16
    go_wp2_with fail
    refine (ct _ HX.out).mono ?_
    rintro e w1 ⟨b1, c1, rfl, s1, g1⟩
    have cq := cs b1 c1 w1 (s1.at HM.out)
    clear s1 cs
    go_wp2_with fail
    refine cq.mono ?_
    rintro e w2 ⟨rfl, g2⟩
    clear cq
    have G2 := Lib.hid (grownBy_trans g1 g2)
    clear g1 g2
    go_wp2_with fail
    refine (ct _ (HX.out.grown G2.out)).mono ?_
    rintro e w3 ⟨b3, c3, rfl, s3, g3⟩
    have S3 := Lib.hid (s3.at HM.out)
    have cq := ci b3 c3 w3 S3.out
    have G3 := Lib.hid (grownBy_trans G2.out g3)
    clear s3 ci g3
    go_wp2_with fail
    refine cq.mono ?_
    rintro e w4 ⟨rfl, g4⟩
    clear cq
    have G4 := Lib.hid (grownBy_trans G3.out g4)
    have S4 := Lib.hid (S3.out.grown g4)
    clear g4
    go_wp2_with fail
    refine (ct _ (HX.out.grown G4.out)).mono ?_
    rintro e w5 ⟨b5, c5, rfl, s5, g5⟩
    have ce := leqI_self b3 b5 c3 c5 xs w5 (S4.out.grown g5) (s5.at HM.out)
    clear s5 ct
    go_wp2_with fail
    refine ce.mono ?_
    rintro e w6 ⟨rfl, g6⟩
    clear ce
    go_wp2_with fail
    go_ret
    exact ⟨rfl, below_of (grownBy_trans G4.out (grownBy_trans g5 g6))⟩

end Go.Proofs.Ythfikgaghinfbaa
