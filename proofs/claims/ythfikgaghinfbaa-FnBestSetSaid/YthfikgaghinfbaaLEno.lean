/-
  impl's EnoughOk, FewestOf, BestSet. No condition.
-/
import Derived.Test.YthfikgaghinfbaaLSol2
namespace Go.Proofs.Ythfikgaghinfbaa
open Go.RowKit

set_option maxHeartbeats 4000000 in
theorem ienough_any (n : Int) (a : Option Addr) (cap : Nat) (xs : List Int) (q : Int) (w : World) (h : IntsAt w a xs) :
    Calls Try.prog 33 #[.int .i64 n, .slice a xs.length cap, .int .i64 q] w fun e w' => e = .returned (.bool (enW n xs q)) ∧ w.grownBy w' none := by
  have cg := iques_any n a cap xs q w h
  have H := Lib.hid h
  clear h
  cases hg : (gameB n xs && inB q 0 12)
  · have hz : Hid (enW n xs q = false) := by unfold Hid enW; rw [← Bool.and_assoc, hg]; rfl
    rw [hg] at cg
    go_enter Try.func33, Try.ntmps33
    go_wp2_with fail
    refine cg.mono ?_
    rintro e w1 ⟨rfl, g1⟩
    clear cg
    go_wp2_with fail
    go_ret
    exact ⟨by rw [hz.out]; rfl, g1⟩
  · rw [hg] at cg
    rw [Bool.and_eq_true] at hg
    obtain ⟨hg, hs⟩ := hg
    obtain ⟨Q, rfl⟩ := Int.eq_ofNat_of_zero_le (inB_of hs).1
    obtain ⟨N, rfl⟩ := Int.eq_ofNat_of_zero_le (show 0 ≤ n by have := (gameB_of hg).1; omega)
    have hQ : Q ≤ 12 := by have := inB_of hs; omega
    have hN : 1 ≤ N ∧ N ≤ 3 := by have := (gameB_of hg).1; omega
    have hL := (gameB_of hg).2.1
    have hz : Hid (enW (N : Int) xs (Q : Int) = svB N xs.length Q (codeL N xs)) := by unfold Hid enW; rw [hg, hs]; rfl
    have cs := fun w => solved_any N xs.length Q hN hL hQ w
    have HA1 := Lib.hid (pw_le (N := N) (k := xs.length) hN.2 hL.2).1
    have HGM := Lib.hid hg
    have q0 : (0 : Int) ≤ (Q : Int) := by omega
    have q12 : (Q : Int) ≤ 12 := by omega
    have l3 : (xs.length : Int) ≤ 3 := by omega
    clear hN hL hs hg hQ
    go_enter Try.func33, Try.ntmps33
    go_wp2_with fail
    refine cg.mono ?_
    rintro e w1 ⟨rfl, g1⟩
    clear cg
    go_wp2_with fail
    refine (cs w1).mono ?_
    rintro e w2 ⟨v, rfl, hl, g2⟩
    clear cs
    obtain ⟨g, cv, gi, rfl, hcell, hbits, hgi⟩ := hl.at HA1.out (i := Q) (by omega)
    have HB := Lib.hid hbits
    have HG := Lib.hid (grownBy_trans g1 g2)
    have hq1 : (Q : Int) < (Q : Int) + 1 := by omega
    clear hl hbits hgi g1 g2
    have ct := tkept_is N gi (pw N xs.length) (svB N xs.length Q) w2 HB.out
    go_wp2_with fail
    refine ct.mono ?_
    rintro e w3 ⟨Bk, Bs, rfl, hk, g3⟩
    clear ct
    have c1 := tk1_any N a cap xs Bk Bs gi 0 (pw N xs.length) (pw N xs.length) (svB N xs.length Q) w3 (H.out.grown (grownBy_trans HG.out g3)) HGM.out rfl hk
    have HG3 := Lib.hid (grownBy_trans HG.out g3)
    clear hk g3
    generalize svB N xs.length Q (codeL N xs) = bb at *
    go_wp2_with fail
    refine c1.mono ?_
    rintro e w4 ⟨rfl, g4⟩
    clear c1
    go_wp2_with fail
    go_ret
    exact ⟨by rw [hz.out]; rfl, grownBy_trans HG3.out g4⟩

def LfwRel (F : Nat) (w : World) (i : Value) (wr : World) : Prop := ∃ r : Nat, r ≤ F ∧ i = .int .i64 r ∧ w.grownBy wr none

set_option maxHeartbeats 4000000 in
theorem ifewest_any (n : Int) (a : Option Addr) (cap : Nat) (xs : List Int) (w : World) (h : IntsAt w a xs) :
    Calls Try.prog 36 #[.int .i64 n, .slice a xs.length cap] w fun e w' => e = .returned (.tuple #[.int .i64 (fewW n xs), .bool (gameB n xs)]) ∧ w.grownBy w' none := by
  have cg := igame_any n a cap xs w h
  have H := Lib.hid h
  clear h
  cases hg : gameB n xs
  · have hz : Hid (fewW n xs = -1) := if_neg (by rw [hg]; simp)
    rw [hg] at cg
    go_enter Try.func36, Try.ntmps36
    go_wp2_with fail
    refine cg.mono ?_
    rintro e w1 ⟨rfl, g1⟩
    clear cg
    go_wp2_with fail
    go_ret2
    exact ⟨by rw [hz.out]; rfl, g1⟩
  · rw [hg] at cg
    obtain ⟨N, rfl⟩ := Int.eq_ofNat_of_zero_le (show 0 ≤ n by have := (gameB_of hg).1; omega)
    have hN : 1 ≤ N ∧ N ≤ 3 := by have := (gameB_of hg).1; omega
    have hL := (gameB_of hg).2.1
    obtain ⟨f1, f2, f3⟩ := few_is hg
    have hz : Hid (fewW (N : Int) xs = (fewL N xs : Nat)) := if_pos hg
    obtain ⟨F, hF⟩ : ∃ F, fewL N xs = F := ⟨_, rfl⟩
    rw [hF] at f1 f2 f3
    have HF := Lib.hid hF
    have F1 := Lib.hid f1
    have F2 := Lib.hid f2
    have F3 := Lib.hid f3
    have cs := fun w => solved_any N xs.length 12 hN hL (by omega) w
    have HA1 := Lib.hid (pw_le (N := N) (k := xs.length) hN.2 hL.2).1
    have HGM := Lib.hid hg
    have l3 : (xs.length : Int) ≤ 3 := by omega
    clear hN hL hg f1 f2 f3 hF
    go_enter Try.func36, Try.ntmps36
    go_wp2_with fail
    refine cg.mono ?_
    rintro e w1 ⟨rfl, g1⟩
    clear cg
    go_wp2_with fail
    refine (cs w1).mono ?_
    rintro e w2 ⟨v, rfl, hl, g2⟩
    clear cs
    obtain ⟨g, cv, _, rfl, _⟩ := hl.at HA1.out (i := 0) (by omega)
    have HL2 := Lib.hid hl
    have HG := Lib.hid (grownBy_trans g1 g2)
    clear hl g1 g2
    go_wp2_with fail
    go_loopw [17] (fun i wr => LfwRel F w2 i wr) (fun i _ => F + 1 - (intOf i).toNat)
    case atStart => exact ⟨0, Nat.zero_le _, rfl, grownBy_refl _ _⟩
    case round =>
      obtain ⟨r, hr, rfl, hgr⟩ := hrel
      have r13 : r < 13 := by have := F2.out; omega
      obtain ⟨g', cv', gi, he, hcell, hbits, _⟩ := (HL2.out.kept hgr).at HA1.out (i := r) r13
      simp only [Value.slice.injEq, Option.some.injEq, Addr.mk.injEq, and_true, true_and] at he
      obtain ⟨rfl, rfl⟩ := he
      have ct := tkept_is N gi (pw N xs.length) (svB N xs.length r) wr hbits
      have hcase : Hid ((r = F ∧ enB N xs r = true) ∨ (r < F ∧ enB N xs r = false)) := by
        unfold Hid
        by_cases e : r < F
        · exact .inr ⟨e, F3.out r e⟩
        · have e2 : r = F := by omega
          exact .inl ⟨e2, by rw [e2]; exact F1.out⟩
      have r0 : (0 : Int) ≤ (r : Int) := by omega
      have ri : (r : Int) < 13 := by omega
      have ri2 : (r : Int) < ((12 + 1 : Nat) : Int) := by omega
      have G := Lib.hid hgr
      clear hbits hgr r13 hr
      go_wp2_with fail
      refine ct.mono ?_
      rintro e w3 ⟨Bk, Bs, rfl, hk, g3⟩
      clear ct
      have c1 := tk1_any N a cap xs Bk Bs gi 0 (pw N xs.length) (pw N xs.length) (svB N xs.length r) w3 (H.out.grown (grownBy_trans HG.out (grownBy_trans G.out g3))) HGM.out rfl hk
      have HG3 := Lib.hid (grownBy_trans G.out g3)
      clear hk g3
      have he2 : svB N xs.length r (codeL N xs) = enB N xs r := rfl
      rw [he2] at c1
      clear he2
      rcases hcase.out with ⟨rfl, hb⟩ | ⟨hlt, hb⟩
      · rw [hb] at c1
        clear hb hcase
        go_wp2_with fail
        refine c1.mono ?_
        rintro e w4 ⟨rfl, g4⟩
        clear c1
        go_wp2_with fail
        go_ret2
        exact ⟨by rw [hz.out, HF.out]; rfl, grownBy_trans HG.out (grownBy_trans HG3.out g4)⟩
      · rw [hb] at c1
        have HLT := Lib.hid hlt
        clear hb hcase hlt
        go_wp2_with fail
        refine c1.mono ?_
        rintro e w4 ⟨rfl, g4⟩
        clear c1
        have G4 := Lib.hid (grownBy_trans HG3.out g4)
        clear g4
        go_wp2_with fail
        go_roundw
        case rel => exact ⟨r + 1, HLT.out, by go_num, G4.out⟩
        case measure => have := HLT.out; simp [intOf]; omega

set_option maxHeartbeats 4000000 in
theorem ibest_any (n : Int) (a : Option Addr) (cap : Nat) (xs : List Int) (w : World) (h : IntsAt w a xs) :
    Calls Try.prog 39 #[.int .i64 n, .slice a xs.length cap] w fun e w' => e = .returned (.tuple #[.int .i64 (bestW n xs), .bool (bestOk n xs)]) ∧ w.grownBy w' none := by
  have cw := ifewest_any n a cap xs w h
  have H := Lib.hid h
  clear h
  cases hg : gameB n xs
  · have hz : Hid (bestOk n xs = false) := by unfold Hid bestOk; rw [hg]; rfl
    have hz2 : Hid (bestW n xs = -1) := by unfold Hid bestW; rw [hz.out]; rfl
    rw [hg] at cw
    generalize fewW n xs = f at *
    go_enter Try.func39, Try.ntmps39
    go_wp2_with fail
    refine cw.mono ?_
    rintro e w1 ⟨rfl, g1⟩
    clear cw
    go_wp2_with fail
    go_ret2
    exact ⟨by rw [hz.out, hz2.out]; rfl, g1⟩
  · rw [hg] at cw
    obtain ⟨N, rfl⟩ := Int.eq_ofNat_of_zero_le (show 0 ≤ n by have := (gameB_of hg).1; omega)
    have hN : 1 ≤ N ∧ N ≤ 3 := by have := (gameB_of hg).1; omega
    have hL := (gameB_of hg).2.1
    have hfw : fewW (N : Int) xs = (fewL N xs : Nat) := if_pos hg
    rw [hfw] at cw
    by_cases h0 : fewL N xs = 0
    · have hz : Hid (bestOk (N : Int) xs = false) := by unfold Hid bestOk; rw [hg]; show (fewL N xs != 0) = false; rw [h0]; rfl
      have hz2 : Hid (bestW (N : Int) xs = -1) := by unfold Hid bestW; rw [hz.out]; rfl
      rw [h0] at cw
      clear hfw h0
      go_enter Try.func39, Try.ntmps39
      go_wp2_with fail
      refine cw.mono ?_
      rintro e w1 ⟨rfl, g1⟩
      clear cw
      go_wp2_with fail
      go_ret2
      exact ⟨by rw [hz.out, hz2.out]; rfl, g1⟩
    · have hz : Hid (bestOk (N : Int) xs = true) := by unfold Hid bestOk; rw [hg]; show (fewL N xs != 0) = true; simpa using h0
      have hz2 : Hid (bestW (N : Int) xs = (bestL N xs : Nat)) := by unfold Hid bestW; rw [hz.out]; rfl
      obtain ⟨b1, b2, b3⟩ := best_first hg h0
      have hF12 := (few_is hg).2.1
      obtain ⟨F, hF⟩ : ∃ F, fewL N xs = F + 1 := ⟨fewL N xs - 1, by omega⟩
      rw [hF] at cw b2 b3 hF12
      rw [show F + 1 - 1 = F by omega] at b2 b3
      have hfirst : Hid (FirstS N xs.length F (codeL N xs) (bestL N xs) true) := ⟨b3, .inl ⟨rfl, b1, b2⟩⟩
      have hsf : Hid (sfV (bestL N xs) true = (bestL N xs : Nat)) := rfl
      have f0 : ¬ (((F + 1 : Nat) : Int) = 0) := by omega
      have f1 : ((F + 1 : Nat) : Int) - 1 = (F : Int) := by omega
      have f2 : ((F + 1 : Nat) : Int) ≤ 12 := by omega
      have f3 : (1 : Int) ≤ ((F + 1 : Nat) : Int) := by omega
      have f4 : (0 : Int) ≤ (F : Int) := by omega
      have f5 : (F : Int) ≤ 11 := by omega
      have cs := fun w => solved_any N xs.length F hN hL (by omega) w
      have HA1 := Lib.hid (pw_le (N := N) (k := xs.length) hN.2 hL.2).1
      have HGM := Lib.hid hg
      have l3 : (xs.length : Int) ≤ 3 := by omega
      clear hN hL hg b1 b2 b3 hF hfw h0 hF12
      generalize ((F + 1 : Nat) : Int) = FI at *
      generalize bestL N xs = B at *
      go_enter Try.func39, Try.ntmps39
      go_wp2_with fail
      refine cw.mono ?_
      rintro e w1 ⟨rfl, g1⟩
      clear cw
      go_wp2_with fail
      refine (cs w1).mono ?_
      rintro e w2 ⟨v, rfl, hl, g2⟩
      clear cs
      obtain ⟨g, cv, gi, rfl, hcell, hbits, hgi⟩ := hl.at HA1.out (i := F) (by omega)
      have HB := Lib.hid hbits
      have HG := Lib.hid (grownBy_trans g1 g2)
      have hq1 : (F : Int) < (F : Int) + 1 := by omega
      clear hl hbits hgi g1 g2
      have ct := tkept_is N gi (pw N xs.length) (svB N xs.length F) w2 HB.out
      go_wp2_with fail
      refine ct.mono ?_
      rintro e w3 ⟨Bk, Bs, rfl, hk, g3⟩
      clear ct
      have c1 := isetfor_any N F a cap xs Bk Bs gi 0 (pw N xs.length) B true w3 (H.out.grown (grownBy_trans HG.out g3)) HGM.out hk hfirst.out
      have HG3 := Lib.hid (grownBy_trans HG.out g3)
      clear hk g3
      go_wp2_with fail
      refine c1.mono ?_
      rintro e w4 ⟨rfl, g4⟩
      clear c1
      go_wp2_with fail
      go_ret2
      exact ⟨by rw [hz.out, hz2.out, ← hsf.out]; rfl, grownBy_trans HG3.out g4⟩

end Go.Proofs.Ythfikgaghinfbaa
