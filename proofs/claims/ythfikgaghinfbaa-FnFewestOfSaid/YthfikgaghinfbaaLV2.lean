/-
  The walk of FnWeightOf.
-/
import Derived.Test.YthfikgaghinfbaaLV1
import Derived.Test.YthfikgaghinfbaaLWei2
namespace Go.Proofs.Ythfikgaghinfbaa
open Go.RowKit

theorem weightW_in {n : Int} {xs : List Int} (hg : gameB n xs = true) {Q : Nat} (hQ : Q ≤ 12) : weightW n xs (Q : Int) = (weightL xs Q : Nat) := if_pos ⟨hg, inB_t (by omega)⟩
theorem weightL_le {n : Int} {xs : List Int} (hg : gameB n xs = true) {Q : Nat} (hQ : Q ≤ 12) : weightL xs Q ≤ 36864 := by
  have h := wK_le hg hQ xs.length (Nat.le_refl _)
  have := (gameB_of hg).2.1.2
  unfold weightL
  omega
theorem weightL_share {n : Int} {xs : List Int} (hg : gameB n xs = true) (S Q : Nat) : weightL xs (Q + 1) = weightL (ansL xs S true) Q + weightL (ansL xs S false) Q := by
  unfold weightL
  rw [ans_len, ans_len]
  exact w_share (fun k hk => ((gameB_of hg).2.2 k hk).1) S Q xs.length (Nat.le_refl _)
theorem weightL_none {n : Int} {xs : List Int} (hg : gameB n xs = true) : ((weightL xs 0 : Nat) : Int) = leftL xs :=
  w_none (fun k hk => ((gameB_of hg).2.2 k hk).1) xs.length (Nat.le_refl _)

set_option maxRecDepth 100000 in
set_option maxHeartbeats 4000000 in
theorem FnWeightOf_walk (a0 : Option Addr) (len0 cap0 : Nat) (z0 : List Int) (w : World) (w0 : IsRow .u8 w a0 len0 cap0 z0) :
    Calls Try.prog 6 #[.slice a0 len0 cap0] w fun e w' => e = .returned (.bool true) ∧ Below w.heap.size w w' := by
  by_cases hl : (1048576 : Int) < (len0 : Int)
  · clear w0
    go_enter Try.func6, Try.ntmps6
    go_wp2_with fail
    go_ret
    exact ⟨rfl, Below.refl _ _⟩
  · go_enter Try.func6, Try.ntmps6
    go_wp2_with fail
    refine (DrawWeightOf_any _ _ _ _ _ w0).mono ?_
    rintro e w1 ⟨n, xs, a, ca, q, rfl, n1, n2, x3, hX, q1, q2, g1⟩
    clear w0
    have HX := Lib.hid hX
    clear hX
    have c1 := fun w h => iweight_any n a ca xs q w h
    have c2 := fun w h => sweight_any n a ca xs q w h
    cases hg : (gameB n xs && inB q 0 12)
    · have hz : weightW n xs q = -1 := if_neg (by intro e; rw [e.1, e.2] at hg; cases hg)
      rw [hz] at c1 c2
      clear hg hz
      go_wp2_with fail
      refine (c1 _ HX.out).mono ?_
      rintro e w2 ⟨rfl, g2⟩
      clear c1
      go_wp2_with fail
      refine (c2 _ (HX.out.grown g2)).mono ?_
      rintro e w3 ⟨rfl, rfl⟩
      clear c2
      go_wp2_with (go_at_call 20; refine (alive_any _).mono ?_; rintro e w' ⟨rfl, rfl⟩)
      go_ret
      exact ⟨rfl, below_of (grownBy_trans g1 g2)⟩
    · rw [Bool.and_eq_true] at hg
      obtain ⟨hg, hs⟩ := hg
      obtain ⟨Q, rfl⟩ := Int.eq_ofNat_of_zero_le (inB_of hs).1
      have hQ : Q ≤ 12 := by have := inB_of hs; omega
      rw [weightW_in hg hQ] at c1 c2
      have hL := (gameB_of hg).2.1
      have hle := weightL_le hg hQ
      have HG := Lib.hid hg
      have HQ := Lib.hid hQ
      have HL := Lib.hid hL
      have hP := pow_wrap hL
      have tp := two_pow hL
      obtain ⟨P, hPP⟩ : ∃ P : Nat, 2 ^ xs.length = P := ⟨_, rfl⟩
      have HPP := Lib.hid hPP
      have e2 : (2 : Int) ^ xs.length = (P : Int) := by rw [← hPP]; push_cast; rfl
      obtain ⟨p1, p2⟩ := hP
      rw [e2] at p1 p2 tp
      have p1' : wrap64 (2 ^ xs.length) = (P : Int) := by rw [e2]; exact p1
      have p2' : IntKind.i64.wrap (2 ^ xs.length) = (P : Int) := by rw [e2]; exact p2
      have l1 : (1 : Int) ≤ (xs.length : Int) := by omega
      have l3 : (xs.length : Int) ≤ 3 := by omega
      have HW := Lib.hid (show ∀ Q', Q = Q' + 1 → ∀ S, weightL xs Q = weightL (ansL xs S true) Q' + weightL (ansL xs S false) Q' from fun Q' e S => by rw [e]; exact weightL_share hg S Q')
      have c7 := fun w h => iweight_any n a ca xs 0 w h
      have hw0 : weightW n xs 0 = leftL xs := by
        have h := weightW_in hg (Q := 0) (by omega)
        rw [weightL_none hg] at h
        exact h
      rw [hw0] at c7
      have c8 := fun w h => ileft_any n a ca xs w h
      rw [leftW_t hg] at c8
      have q0 : (0 : Int) ≤ (Q : Int) := by omega
      have q12 : (Q : Int) ≤ 12 := by omega
      clear hg hs hQ hL hPP e2 p1 p2 hw0
      generalize leftL xs = lf at *
      generalize weightL xs Q = W at *
      have hww : ((W : Int) != (W : Int)) = false := by simp
      have hff : (lf == lf) = true := by simp
      have hW0 : ¬ ((W : Int) < 0) := by omega
      go_wp2_with fail
      refine (c1 _ HX.out).mono ?_
      rintro e w2 ⟨rfl, g2⟩
      clear c1
      go_wp2_with fail
      refine (c2 _ (HX.out.grown g2)).mono ?_
      rintro e w3 ⟨rfl, rfl⟩
      clear c2
      have G2 := Lib.hid (grownBy_trans g1 g2)
      have HX2 := Lib.hid (HX.out.grown g2)
      clear g1 g2
      go_wp2_with fail
      go_loopw [7] (fun i wx => LstRel P w2 i wx) (fun i _ => P - (intOf i).toNat)
      case atStart => exact ⟨0, by omega, rfl, grownBy_refl _ _⟩
      case round =>
        obtain ⟨S, hS, rfl, hgr⟩ := hrel
        have S0 : (0 : Int) ≤ (S : Int) := by omega
        by_cases hlt : S < P
        · have sP : (S : Int) < (P : Int) := by omega
          cases Q with
          | zero =>
            go_wp2_with fail
            refine (c7 _ (HX2.out.grown hgr)).mono ?_
            rintro e w3 ⟨rfl, g3⟩
            clear c7
            go_wp2_with fail
            refine (c8 _ (HX2.out.grown (grownBy_trans hgr g3))).mono ?_
            rintro e w4 ⟨rfl, g4⟩
            clear c8
            go_wp2_with fail
            go_ret
            exact ⟨rfl, below_of (grownBy_trans G2.out (grownBy_trans hgr (grownBy_trans g3 g4)))⟩
          | succ Q' =>
            have hSP : S < 2 ^ xs.length := by rw [HPP.out]; exact hlt
            have c3 := fun w h => iansw_any n a ca xs (S : Int) true w h
            have c4 := fun w h => iansw_any n a ca xs (S : Int) false w h
            rw [ansW_in HG.out hSP] at c3 c4
            have hq' : ((Q' + 1 : Nat) : Int) - 1 = (Q' : Int) := by omega
            have hq0 : (0 : Int) < ((Q' + 1 : Nat) : Int) := by omega
            have c5 := fun d e w (h : IntsAt w d (ansL xs S true)) => iweight_any n d e (ansL xs S true) (Q' : Int) w h
            have c6 := fun d e w (h : IntsAt w d (ansL xs S false)) => iweight_any n d e (ansL xs S false) (Q' : Int) w h
            rw [weightW_in (ans_game HG.out S true) (by have := HQ.out; omega)] at c5
            rw [weightW_in (ans_game HG.out S false) (by have := HQ.out; omega)] at c6
            have hsum := HW.out Q' rfl S
            have HZ := Lib.hid (fun y => show (ansL xs S y).length ≤ maxLen by rw [ans_len]; have := HL.out; unfold maxLen; omega)
            have HGR := Lib.hid hgr
            have HLT := Lib.hid hlt
            clear hSP hgr hlt hS
            generalize weightL (ansL xs S true) Q' = A at *
            generalize weightL (ansL xs S false) Q' = B at *
            have hAB : (A : Int) + (B : Int) = (W : Int) := by omega
            have hA : (A : Int) ≤ 36864 := by omega
            have hB : (B : Int) ≤ 36864 := by omega
            clear hsum
            generalize ((Q' + 1 : Nat) : Int) = QI at *
            go_wp2_with fail
            refine (c3 _ (HX2.out.grown HGR.out)).mono ?_
            rintro e w3 ⟨d, e3, rfl, hO, g3⟩
            clear c3
            have c5' := c5 d e3 w3 (hO.at (HZ.out _))
            have G3 := Lib.hid (grownBy_trans HGR.out g3)
            clear hO g3 c5
            go_wp2_with fail
            refine c5'.mono ?_
            rintro e w4 ⟨rfl, g4⟩
            clear c5'
            have G4 := Lib.hid (grownBy_trans G3.out g4)
            clear g4
            go_wp2_with fail
            refine (c4 _ (HX2.out.grown G4.out)).mono ?_
            rintro e w5 ⟨d5, e5, rfl, hO, g5⟩
            clear c4
            have c6' := c6 d5 e5 w5 (hO.at (HZ.out _))
            have G5 := Lib.hid (grownBy_trans G4.out g5)
            clear hO g5 c6
            go_wp2_with fail
            refine c6'.mono ?_
            rintro e w6 ⟨rfl, g6⟩
            clear c6'
            have G6 := Lib.hid (grownBy_trans G5.out g6)
            clear g6
            go_wp2_with fail
            go_roundw
            case rel => exact ⟨S + 1, HLT.out, by go_num, G6.out⟩
            case measure => have := HLT.out; simp [intOf]; omega
        · obtain rfl : S = P := by omega
          clear hlt hS
          go_wp2_with fail
          refine (c7 _ (HX2.out.grown hgr)).mono ?_
          rintro e w3 ⟨rfl, g3⟩
          clear c7
          go_wp2_with fail
          refine (c8 _ (HX2.out.grown (grownBy_trans hgr g3))).mono ?_
          rintro e w4 ⟨rfl, g4⟩
          clear c8
          go_wp2_with fail
          go_ret
          exact ⟨rfl, below_of (grownBy_trans G2.out (grownBy_trans hgr (grownBy_trans g3 g4)))⟩

end Go.Proofs.Ythfikgaghinfbaa
