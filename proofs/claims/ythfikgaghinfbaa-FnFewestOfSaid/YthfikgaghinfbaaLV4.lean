/-
  The walk of FnFewestOf.
-/
import Derived.Test.YthfikgaghinfbaaLV3
namespace Go.Proofs.Ythfikgaghinfbaa
open Go.RowKit

theorem lints_made2 (w : World) (o : Obj) (xs : List Int) (h : xs.length ≤ 8) : IntsAt ((w.alloc o).alloc (.cells (xs.map (Value.int .i64)).toArray 3)) (some ⟨w.heap.size + 1, 0, none⟩) xs := by
  have := lints_made (w.alloc o) xs h
  rwa [show (w.alloc o).heap.size = w.heap.size + 1 by simp] at this
theorem pairB {N : Nat} (hN : 1 ≤ N ∧ N ≤ 3) : gameB (N : Int) [(N : Int), (N : Int)] = true := by
  have : N = 1 ∨ N = 2 ∨ N = 3 := by omega
  rcases this with rfl | rfl | rfl <;> decide +kernel

set_option maxRecDepth 100000 in
set_option maxHeartbeats 4000000 in
theorem FnFewestOf_walk (a0 : Option Addr) (len0 cap0 : Nat) (z0 : List Int) (w : World) (w0 : IsRow .u8 w a0 len0 cap0 z0) :
    Calls Try.prog 8 #[.slice a0 len0 cap0] w fun e w' => e = .returned (.bool true) ∧ Below w.heap.size w w' := by
  by_cases hl : (1048576 : Int) < (len0 : Int)
  · clear w0
    go_enter Try.func8, Try.ntmps8
    go_wp2_with fail
    go_ret
    exact ⟨rfl, Below.refl _ _⟩
  · go_enter Try.func8, Try.ntmps8
    go_wp2_with fail
    refine (DrawFewestOf_any _ _ _ _ _ w0).mono ?_
    rintro e w1 ⟨n, xs, a, ca, rfl, n1, n2, x3, hX, g1⟩
    clear w0
    have HX := Lib.hid hX
    clear hX
    have c1 := fun w h => ifewest_any n a ca xs w h
    have c2 := fun w h => sfewest_any n a ca xs w h
    cases hg : gameB n xs
    · have hf : fewW n xs = -1 := if_neg (by rw [hg]; simp)
      rw [hg, hf] at c1 c2
      have c3 := fun w h => lgame_v n a ca xs hg w h
      clear hg hf
      go_wp2_with fail
      refine (c1 _ HX.out).mono ?_
      rintro e w2 ⟨rfl, g2⟩
      clear c1
      go_wp2_with fail
      refine (c2 _ (HX.out.grown g2)).mono ?_
      rintro e w3 ⟨rfl, g3⟩
      clear c2
      have G23 := grownBy_trans g2 g3
      go_wp2_with fail
      refine (c3 _ (HX.out.grown G23)).mono ?_
      rintro e w4 ⟨rfl, g4⟩
      clear c3
      go_wp2_with (go_at_call 20; refine (alive_any _).mono ?_; rintro e w' ⟨rfl, rfl⟩)
      go_ret
      exact ⟨rfl, below_of (grownBy_trans g1 (grownBy_trans G23 g4))⟩
    · rw [hg] at c1 c2
      obtain ⟨N, rfl⟩ := Int.eq_ofNat_of_zero_le (show 0 ≤ n by have := (gameB_of hg).1; omega)
      have hN : 1 ≤ N ∧ N ≤ 3 := by have := (gameB_of hg).1; omega
      have hf : fewW (N : Int) xs = (fewL N xs : Nat) := if_pos hg
      rw [hf] at c1 c2
      obtain ⟨f1, f2, f3⟩ := few_is hg
      have c3 := fun w h => sleft_any (N : Int) a ca xs w h
      rw [leftW_t hg] at c3
      have hll := left_le (fun k hk => ((gameB_of hg).2.2 k hk).1) xs.length (Nat.le_refl _)
      have hl0 : 0 ≤ leftL xs ∧ leftL xs ≤ 3 := ⟨hll.1, by have := hll.2.1; unfold leftL; omega⟩
      have hend : Hid (N = 1 → fewL N xs = [0, 0, 1, 2].getD (leftL xs).toNat 0) := fun e => by subst e; exact few_end hg
      have c4 : ∀ (w : World) (b : Nat), IntsAt w (some ⟨b, 0, none⟩) [(N : Int), (N : Int)] → Calls Try.prog 36 #[.int .i64 N, .slice (some ⟨b, 0, none⟩) 2 2] w fun e w' => e = .returned (.tuple #[.int .i64 (2 * (N : Int) - 1), .bool true]) ∧ w.grownBy w' none := fun w b h => by
        have h := ifewest_any (N : Int) (some ⟨b, 0, none⟩) 2 [(N : Int), (N : Int)] w h
        have e1 : fewW (N : Int) [(N : Int), (N : Int)] = 2 * (N : Int) - 1 := by
          unfold fewW
          rw [if_pos (pairB hN)]
          show ((fewL N [(N : Int), (N : Int)] : Nat) : Int) = _
          rw [few_pair hN]
          omega
        rw [e1, pairB hN] at h
        exact h
      have c5 := fun w h => ienough_any (N : Int) a ca xs (fewL N xs : Nat) w h
      rw [enW_in hg f2, f1] at c5
      have c6 : fewL N xs ≠ 0 → ∀ w, IntsAt w a xs → Calls Try.prog 33 #[.int .i64 N, .slice a xs.length ca, .int .i64 (((fewL N xs : Nat) : Int) - 1)] w fun e w' => e = .returned (.bool false) ∧ w.grownBy w' none := fun h0 w h => by
        have h := ienough_any (N : Int) a ca xs ((fewL N xs - 1 : Nat) : Int) w h
        rw [enW_in hg (by omega), f3 _ (by omega)] at h
        rw [show ((fewL N xs - 1 : Nat) : Int) = ((fewL N xs : Nat) : Int) - 1 by omega] at h
        exact h
      have n1' : (1 : Int) ≤ (N : Int) := by omega
      have n3' : (N : Int) ≤ 3 := by omega
      obtain ⟨l, hll2⟩ := Int.eq_ofNat_of_zero_le hl0.1
      have hl4 : l < 4 := by omega
      have hz : (#[.int .i64 0, .int .i64 0, .int .i64 1, .int .i64 2] : Array Value)[l]? = some (.int .i64 (([0, 0, 1, 2] : List Nat).getD l 0 : Nat)) := by
        match l, hl4 with
        | 0, _ | 1, _ | 2, _ | 3, _ => rfl
      rw [hll2] at c3
      have HEND : Hid (N = 1 → fewL N xs = ([0, 0, 1, 2] : List Nat).getD l 0) := fun e => by
        have := hend.out e
        rw [hll2] at this
        exact this
      have l0 : (0 : Int) ≤ (l : Int) := by omega
      have l4 : (l : Int) < 4 := by omega
      have lmade := fun w => lcell_made (w := w) (t := 3) hz
      have LM := Lib.hid lmade
      clear hg hf f1 f3 hll hN hl0 hll2 hl4 hend hz lmade
      generalize (([0, 0, 1, 2] : List Nat).getD l 0) = z at *
      generalize fewL N xs = F at *
      have hFF : ((F : Int) != (F : Int)) = false := by simp
      have F12 : (F : Int) ≤ 12 := by omega
      have F0 : (0 : Int) ≤ (F : Int) := by omega
      go_wp2_with fail
      refine (c1 _ HX.out).mono ?_
      rintro e w2 ⟨rfl, g2⟩
      clear c1
      go_wp2_with fail
      refine (c2 _ (HX.out.grown g2)).mono ?_
      rintro e w3 ⟨rfl, g3⟩
      clear c2
      have G23 := Lib.hid (grownBy_trans g2 g3)
      go_wp2_with fail
      refine (c3 _ (HX.out.grown G23.out)).mono ?_
      rintro e w' ⟨rfl, rfl⟩
      clear c3 g2 g3
      have nz := LM.out w3
      have gA : w3.grownBy (w3.alloc (.cells #[.int .i64 0, .int .i64 0, .int .i64 1, .int .i64 2] 3)) none := World.grownBy_alloc _ _ none
      have GA := Lib.hid (grownBy_trans G23.out (grownBy_trans gA (World.grownBy_alloc (w3.alloc (.cells #[.int .i64 0, .int .i64 0, .int .i64 1, .int .i64 2] 3)) (.cells #[.int .i64 N, .int .i64 N] 3) none)))
      have IM := Lib.hid (lints_made2 w3 (.cells #[.int .i64 0, .int .i64 0, .int .i64 1, .int .i64 2] 3) [(N : Int), (N : Int)] (by simp))
      clear gA
      have hcase : Hid ((((N : Int) == 1) = true ∧ F = z) ∨ (((N : Int) == 1) = false ∧ ¬ ((N : Int) = 1))) := by
        unfold Hid
        by_cases hN1 : N = 1
        · exact .inl ⟨by subst hN1; rfl, HEND.out hN1⟩
        · exact .inr ⟨by simp; omega, by omega⟩
      clear HEND
      rcases hcase.out with ⟨hn1, hz⟩ | ⟨hn1, hn2⟩
      all_goals
        try subst hz
        clear hcase
        go_wp2_with fail
        refine (c4 _ _ IM.out).mono ?_
        rintro e w4 ⟨rfl, g4⟩
        clear c4 nz
        have i4 : IntsAt w4 a xs := HX.out.grown (grownBy_trans GA.out g4)
        have I4 := Lib.hid i4
        have G4 := Lib.hid (grownBy_trans g1 (grownBy_trans GA.out g4))
        clear g4 g1
        go_wp2_with fail
        refine (c5 _ i4).mono ?_
        rintro e w5 ⟨rfl, g5⟩
        clear c5 i4
        by_cases hF0 : F = 0
        · subst hF0
          clear c6
          go_wp2_with fail
          go_ret
          exact ⟨by first | rfl | simp, below_of (grownBy_trans G4.out g5)⟩
        · have c6' := c6 hF0 w5 (I4.out.grown g5)
          have f0 : ((F : Int) == 0) = false := by simp; omega
          have f1 : (1 : Int) ≤ (F : Int) := by omega
          have f2' : ¬ ((F : Int) = 0) := by omega
          clear c6 hF0
          go_wp2_with fail
          refine c6'.mono ?_
          rintro e w6 ⟨rfl, g6⟩
          clear c6'
          go_wp2_with fail
          go_ret
          exact ⟨by first | rfl | simp, below_of (grownBy_trans G4.out (grownBy_trans g5 g6))⟩

end Go.Proofs.Ythfikgaghinfbaa
