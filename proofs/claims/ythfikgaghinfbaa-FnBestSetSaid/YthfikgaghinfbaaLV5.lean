/-
  The walk of FnBestSet.
-/
import Derived.Test.YthfikgaghinfbaaLV1
import Derived.Test.YthfikgaghinfbaaLEno
namespace Go.Proofs.Ythfikgaghinfbaa
open Go.RowKit

set_option maxRecDepth 100000 in
set_option maxHeartbeats 4000000 in
theorem FnBestSet_walk (a0 : Option Addr) (len0 cap0 : Nat) (z0 : List Int) (w : World) (w0 : IsRow .u8 w a0 len0 cap0 z0) :
    Calls Try.prog 9 #[.slice a0 len0 cap0] w fun e w' => e = .returned (.bool true) ∧ Below w.heap.size w w' := by
  by_cases hl : (1048576 : Int) < (len0 : Int)
  · clear w0
    go_enter Try.func9, Try.ntmps9
    go_wp2_with fail
    go_ret
    exact ⟨rfl, Below.refl _ _⟩
  · go_enter Try.func9, Try.ntmps9
    go_wp2_with fail
    refine (DrawBestSet_any _ _ _ _ _ w0).mono ?_
    rintro e w1 ⟨n, xs, a, ca, rfl, n1, n2, x3, hX, g1⟩
    clear w0
    have HX := Lib.hid hX
    clear hX
    have c1 := fun w h => ibest_any n a ca xs w h
    have c2 := fun w h => sbest_any n a ca xs w h
    have c3 := fun w h => sfewest_any n a ca xs w h
    cases hb : bestOk n xs
    · have hf : bestW n xs = -1 := by unfold bestW; rw [hb]; rfl
      rw [hb, hf] at c1 c2
      have hcase : Hid (gameB n xs = false ∨ (gameB n xs = true ∧ fewW n xs = 0)) := by
        unfold Hid
        cases hg : gameB n xs
        · exact .inl rfl
        · right
          refine ⟨rfl, ?_⟩
          unfold fewW
          rw [if_pos hg]
          unfold bestOk at hb
          rw [hg] at hb
          have : fewL n.toNat xs = 0 := by simpa using hb
          rw [this]; rfl
      clear hb hf
      rcases hcase.out with hg | ⟨hg, hf⟩
      · rw [hg] at c3
        clear hcase hg
        generalize fewW n xs = f at *
        go_wp2_with fail
        refine (c1 _ HX.out).mono ?_
        rintro e w2 ⟨rfl, g2⟩
        clear c1
        go_wp2_with fail
        refine (c2 _ (HX.out.grown g2)).mono ?_
        rintro e w3 ⟨rfl, g3⟩
        clear c2
        go_wp2_with fail
        refine (c3 _ (HX.out.grown (grownBy_trans g2 g3))).mono ?_
        rintro e w4 ⟨rfl, g4⟩
        clear c3
        go_wp2_with (go_at_call 20; refine (alive_any _).mono ?_; rintro e w' ⟨rfl, rfl⟩)
        go_ret
        exact ⟨rfl, below_of (grownBy_trans g1 (grownBy_trans g2 (grownBy_trans g3 g4)))⟩
      · rw [hg, hf] at c3
        clear hcase hg hf
        go_wp2_with fail
        refine (c1 _ HX.out).mono ?_
        rintro e w2 ⟨rfl, g2⟩
        clear c1
        go_wp2_with fail
        refine (c2 _ (HX.out.grown g2)).mono ?_
        rintro e w3 ⟨rfl, g3⟩
        clear c2
        go_wp2_with fail
        refine (c3 _ (HX.out.grown (grownBy_trans g2 g3))).mono ?_
        rintro e w4 ⟨rfl, g4⟩
        clear c3
        go_wp2_with (go_at_call 20; refine (alive_any _).mono ?_; rintro e w' ⟨rfl, rfl⟩)
        go_ret
        exact ⟨rfl, below_of (grownBy_trans g1 (grownBy_trans g2 (grownBy_trans g3 g4)))⟩
    · have hb2 := hb
      unfold bestOk at hb2
      rw [Bool.and_eq_true] at hb2
      obtain ⟨hg, h0⟩ := hb2
      obtain ⟨N, rfl⟩ := Int.eq_ofNat_of_zero_le (show 0 ≤ n by have := (gameB_of hg).1; omega)
      have h0 : fewL N xs ≠ 0 := by simpa using h0
      have hL := (gameB_of hg).2.1
      obtain ⟨b1, b2⟩ := best_is hg h0
      have hf : bestW (N : Int) xs = (bestL N xs : Nat) := by unfold bestW; rw [hb]; rfl
      rw [hb, hf] at c1 c2
      have hfw : fewW (N : Int) xs = (fewL N xs : Nat) := if_pos hg
      rw [hg, hfw] at c3
      have c4 := fun w h => iansw_any (N : Int) a ca xs (bestL N xs : Int) true w h
      have c5 := fun w h => iansw_any (N : Int) a ca xs (bestL N xs : Int) false w h
      rw [ansW_in hg b1] at c4 c5
      have c6 := fun d e w (h : IntsAt w d (ansL xs (bestL N xs) true)) => ifewest_any (N : Int) d e (ansL xs (bestL N xs) true) w h
      have c7 := fun d e w (h : IntsAt w d (ansL xs (bestL N xs) false)) => ifewest_any (N : Int) d e (ansL xs (bestL N xs) false) w h
      have f1 : fewW (N : Int) (ansL xs (bestL N xs) true) = (fewL N (ansL xs (bestL N xs) true) : Nat) := if_pos (ans_game hg _ _)
      have f2 : fewW (N : Int) (ansL xs (bestL N xs) false) = (fewL N (ansL xs (bestL N xs) false) : Nat) := if_pos (ans_game hg _ _)
      rw [f1, ans_game hg] at c6
      rw [f2, ans_game hg] at c7
      have k1 := (few_is (ans_game hg (bestL N xs) true)).2.1
      have k2 := (few_is (ans_game hg (bestL N xs) false)).2.1
      have k3 := (few_is hg).2.1
      have HZ := Lib.hid (fun y => show (ansL xs (bestL N xs) y).length ≤ maxLen by rw [ans_len]; unfold maxLen; omega)
      clear hb hg hf hfw f1 f2 b1 hL
      generalize fewL N (ansL xs (bestL N xs) true) = A at *
      generalize fewL N (ansL xs (bestL N xs) false) = B at *
      generalize bestL N xs = S at *
      generalize fewL N xs = F at *
      have hSS : ((S : Int) != (S : Int)) = false := by simp
      have F12 : (F : Int) ≤ 12 := by omega
      have F1 : (1 : Int) ≤ (F : Int) := by omega
      have A12 : (A : Int) ≤ 12 := by omega
      have B12 : (B : Int) ≤ 12 := by omega
      have hmax : (max A B : Nat) = F - 1 := b2
      have hAB : Hid ((A ≤ B ∧ (B : Int) = (F : Int) - 1) ∨ (¬ A ≤ B ∧ (A : Int) = (F : Int) - 1)) := by
        unfold Hid
        by_cases h : A ≤ B
        · left; refine ⟨h, ?_⟩; rw [Nat.max_eq_right h] at hmax; omega
        · right; refine ⟨h, ?_⟩; rw [Nat.max_eq_left (by omega)] at hmax; omega
      clear b2 hmax k1 k2 k3 h0
      go_wp2_with fail
      refine (c1 _ HX.out).mono ?_
      rintro e w2 ⟨rfl, g2⟩
      clear c1
      go_wp2_with fail
      refine (c2 _ (HX.out.grown g2)).mono ?_
      rintro e w3 ⟨rfl, g3⟩
      clear c2
      have G23 := Lib.hid (grownBy_trans g2 g3)
      go_wp2_with fail
      refine (c3 _ (HX.out.grown G23.out)).mono ?_
      rintro e w4 ⟨rfl, g4⟩
      clear c3
      have G4 := Lib.hid (grownBy_trans G23.out g4)
      clear g2 g3 g4
      go_wp2_with fail
      refine (c4 _ (HX.out.grown G4.out)).mono ?_
      rintro e w5 ⟨d, e5, rfl, hO, g5⟩
      clear c4
      have c6' := c6 d e5 w5 (hO.at (HZ.out _))
      have G5 := Lib.hid (grownBy_trans G4.out g5)
      clear hO g5 c6
      go_wp2_with fail
      refine c6'.mono ?_
      rintro e w6 ⟨rfl, g6⟩
      clear c6'
      have G6 := Lib.hid (grownBy_trans G5.out g6)
      clear g6
      go_wp2_with fail
      refine (c5 _ (HX.out.grown G6.out)).mono ?_
      rintro e w7 ⟨d7, e7, rfl, hO, g7⟩
      clear c5
      have c7' := c7 d7 e7 w7 (hO.at (HZ.out _))
      have G7 := Lib.hid (grownBy_trans G6.out g7)
      clear hO g7 c7
      go_wp2_with fail
      refine c7'.mono ?_
      rintro e w8 ⟨rfl, g8⟩
      clear c7'
      have G8 := Lib.hid (grownBy_trans g1 (grownBy_trans G7.out g8))
      clear g8
      rcases hAB.out with ⟨h1, h2⟩ | ⟨h1, h2⟩
      · have h1' : (A : Int) ≤ (B : Int) := by omega
        have he : ((B : Int) == (F : Int) - 1) = true := by simpa using h2
        have h3 : ¬ ((B : Int) < (A : Int)) := by omega
        have H2 := Lib.hid h2
        clear hAB h1 h2
        go_wp2_with fail
        all_goals
          go_ret
          exact ⟨by first | rfl | (simp; done) | (simp; have := H2.out; omega), below_of G8.out⟩
      · have h1' : (B : Int) < (A : Int) := by omega
        have he : ((A : Int) == (F : Int) - 1) = true := by simpa using h2
        have H2 := Lib.hid h2
        clear hAB h1 h2
        go_wp2_with fail
        all_goals
          go_ret
          exact ⟨by first | rfl | (simp; done) | (simp; have := H2.out; omega), below_of G8.out⟩

end Go.Proofs.Ythfikgaghinfbaa
