/-
  The exact laws of TableOk, TableAt, RegularOk.
-/
import Derived.Test.YtbhfbpmfbknalaaTCp
import Derived.Test.YtbhfbpmfbknalaaTRg
import Derived.Outline
namespace Go.Proofs.Ytbhfbpmfbknalaa
open Go.RowKit

theorem held_2 {w0 w1 w2 : World} {a b : Addr} {x y : Value} (h : w1.cell? a = some x ∧ w1.cell? b = some y ∧ w0.grownBy w1 none) (g : w1.grownBy w2 none) : w2.cell? a = some x ∧ w2.cell? b = some y ∧ w0.grownBy w2 none :=
  ⟨g.cell h.1 (by simp), g.cell h.2.1 (by simp), grownBy_trans h.2.2 g⟩

set_option maxHeartbeats 4000000 in
theorem FnExactTableOk_walk (a0 : Option Addr) (len0 cap0 : Nat) (z0 : List Int) (w : World) (w0 : IsRow .i64 w a0 len0 cap0 z0) :
    Calls Try.prog 9 #[.agg #[.slice a0 len0 cap0]] w fun e w' => e = .returned (.bool true) ∧ Below w.heap.size w w' := by
  obtain ⟨xs, rfl, hX⟩ := row_ints w0
  clear w0
  have g0 : w.grownBy (w.alloc (.cells #[.slice a0 xs.length cap0] 43)) none := World.grownBy_alloc _ _ none
  have hm := hX.1
  have hHX := Lib.hid hX
  have HX := Lib.hid (hX.grown g0)
  have C1 := Lib.hid (cell_new1 w (.slice a0 xs.length cap0) 43)
  have G0 := Lib.hid g0
  clear hX g0
  by_cases hl : (xs.length : Int) ≤ 1048576
  · have cz := fun w => szT_yes a0 xs.length cap0 1048576 hm (by omega) hl w
    have hge : ¬ (1048576 - (xs.length : Int) < 0) := by omega
    have hlb : xs.length ≤ 100000000 := by omega
    generalize 1048576 - (xs.length : Int) = left at *
    clear hl
    obtain ⟨v, hv⟩ : ∃ v, triB xs = v := ⟨_, rfl⟩
    have hvv : (v != v) = false := by simp
    have Hv := Lib.hid hv
    clear hv
    go_enter Try.func9, Try.ntmps9
    go_wp2_with fail
    generalize hw1 : (w.alloc (.cells #[.slice a0 xs.length cap0] 43)) = v0 at *
    clear hw1
    refine (cz _).mono ?_
    rintro e w1 ⟨rfl, g1⟩
    have n1 := g1.cell C1.out (by simp)
    clear cz
    go_wp2_with fail
    refine (toT_any a0 cap0 xs hlb w1 (HX.out.grown g1)).mono ?_
    rintro e w2 ⟨b2, c2, rfl, ho2, g2⟩
    have cs := stok_any b2 c2 xs w2 (ho2.at hm)
    rw [Hv.out] at cs
    clear n1 ho2
    go_wp2_with fail
    refine cs.mono ?_
    rintro e w3 ⟨rfl, g3⟩
    have h13 := grownBy_trans g1 (grownBy_trans g2 g3)
    have n1 := h13.cell C1.out (by simp)
    clear cs g2 g3
    go_wp2_with fail
    refine (toT_any a0 cap0 xs hlb w3 (HX.out.grown h13)).mono ?_
    rintro e w4 ⟨b4, c4, rfl, ho4, g4⟩
    have ga : w4.grownBy (w4.alloc (.cells #[.slice b4 xs.length c4] 25)) none := World.grownBy_alloc _ _ none
    have T5 := Lib.hid (T1.new w4 (.slice b4 xs.length c4))
    have I5 := Lib.hid ((ho4.kept ga).at hm)
    have h15 := grownBy_trans h13 (grownBy_trans g4 ga)
    have n5 := T5.out.cell
    generalize hw5 : w4.alloc (.cells #[.slice b4 xs.length c4] 25) = v5 at *
    have ci := tok_any b4 c4 xs v5 I5.out
    rw [Hv.out] at ci
    clear n1 ho4 g4 ga h13
    go_wp2_with fail
    clear hw5
    refine ci.mono ?_
    rintro e w6 ⟨rfl, g6⟩
    have h16 := grownBy_trans h15 g6
    have hb : w6.drew.cell? ⟨w4.heap.size, 0, none⟩ = some (.slice b4 xs.length c4) ∧ w6.drew.cell? ⟨w.heap.size, 0, none⟩ = some (.slice a0 xs.length cap0) ∧ v0.grownBy w6.drew none := ⟨g6.cell n5 (by simp), h16.cell C1.out (by simp), grownBy_drew h16⟩
    have J5 := Lib.hid (I5.out.grown g6)
    clear ci n5
    go_wp2_with fail
    refine wp_region_noPanic ?_
    refine wp_region_held_drew (S := fun w' => w'.cell? ⟨w4.heap.size, 0, none⟩ = some (.slice b4 xs.length c4) ∧ w'.cell? ⟨w.heap.size, 0, none⟩ = some (.slice a0 xs.length cap0) ∧ v0.grownBy w' none) (by kernel_rfl) hb (fun hH => ?_)
    refine take_an 0 22 (v := ?v1) rfl rfl (by kernel_rfl) (by kernel_rfl) (by kernel_rfl) (fun _ _ _ h => h) (by rfl) ?y1 hH ?r1
    case y1 => (rintro w ⟨p0, p1, p2⟩; go_simp; try with_reducible rfl)
    simp only [Act.put, List.setIfInBounds_toArray, List.set_cons_zero, List.set_cons_succ]
    refine take_an 1 23 (v := ?v2) rfl rfl (by kernel_rfl) (by kernel_rfl) (by kernel_rfl) (fun _ _ _ h => h) (by rfl) ?y2 hH ?r2
    case y2 => (rintro w ⟨p0, p1, p2⟩; go_simp; try with_reducible rfl)
    simp only [Act.put, List.setIfInBounds_toArray, List.set_cons_zero, List.set_cons_succ]
    refine wpAnyH_ready (rs := [2]) (by kernel_rfl) (by simp) ?_
    refine AllReadyH.cons rfl (fun K hK => ?_) AllReadyH.nil
    go_simp
    refine (toT_any a0 cap0 xs hlb w6.drew (HX.out.grown hH.2.2)).mono ?_
    rintro e w7 ⟨b7, c7, rfl, ho7, g7⟩
    have I7 := Lib.hid (ho7.at hm)
    clear ho7
    go_wp2_with fail
    refine hK.out _ _ (held_2 hH g7) (fun h7 => ?_)
    clear hK K
    try simp only [Act.put, List.setIfInBounds_toArray, List.set_cons_zero, List.set_cons_succ]
    refine wpAnyH_ready (rs := [3]) (by kernel_rfl) (by simp) ?_
    refine AllReadyH.cons rfl (fun K hK => ?_) AllReadyH.nil
    go_simp
    have ce := eqT_any b4 b7 c4 c7 xs xs w7 (J5.out.grown (grownBy_trans (show w6.grownBy w6.drew none from grownBy_drew (grownBy_refl _ _)) g7)) I7.out
    rw [sameL_self] at ce
    refine ce.mono ?_
    rintro e w8 ⟨rfl, g8⟩
    clear ce
    go_wp2_with fail
    refine hK.out _ _ (held_2 h7 g8) (fun h8 => ?_)
    clear hK K
    try simp only [Act.put, List.setIfInBounds_toArray, List.set_cons_zero, List.set_cons_succ]
    refine take_an 4 26 (v := ?v3) rfl rfl (by kernel_rfl) (by kernel_rfl) (by kernel_rfl) (fun _ _ _ h => h) (by rfl) ?y3 h8 ?r3
    case y3 => (rintro w ⟨p0, p1, p2⟩; go_simp; try with_reducible rfl)
    simp only [Act.put, List.setIfInBounds_toArray, List.set_cons_zero, List.set_cons_succ]
    refine wpAnyH_done (by kernel_rfl) ?_ _
    refine NoPanic.normal ?_
    go_wp2_with fail
    go_ret
    exact ⟨rfl, below_of (grownBy_trans G0.out h8.2.2)⟩
  · have cz := fun w => szT_no a0 xs.length cap0 1048576 hm (by omega) hl w
    clear hl
    go_enter Try.func9, Try.ntmps9
    go_wp2_with fail
    refine (cz _).mono ?_
    rintro e w1 ⟨rfl, g1⟩
    clear cz
    go_wp2_with fail
    go_ret
    exact ⟨rfl, below_of (grownBy_trans G0.out g1)⟩

set_option maxHeartbeats 4000000 in
theorem FnExactTableAt_walk (a0 : Option Addr) (len0 cap0 : Nat) (z0 : List Int) (a1 a2 : Int) (w : World) (w0 : IsRow .i64 w a0 len0 cap0 z0) (_w1 : (Lit.int .i64 a1).wf = true) (_w2 : (Lit.int .i64 a2).wf = true) :
    Calls Try.prog 10 #[.agg #[.slice a0 len0 cap0], .int .i64 a1, .int .i64 a2] w fun e w' => e = .returned (.bool true) ∧ Below w.heap.size w w' := by
  obtain ⟨xs, rfl, hX⟩ := row_ints w0
  clear w0
  have g0 : w.grownBy (w.alloc (.cells #[.slice a0 xs.length cap0] 43)) none := World.grownBy_alloc _ _ none
  have hm := hX.1
  have hHX := Lib.hid hX
  have HX := Lib.hid (hX.grown g0)
  have C1 := Lib.hid (cell_new1 w (.slice a0 xs.length cap0) 43)
  have G0 := Lib.hid g0
  clear hX g0
  by_cases hl : (xs.length : Int) ≤ 1048576
  · have cz := fun w => szT_yes a0 xs.length cap0 1048576 hm (by omega) hl w
    have hge : ¬ (1048576 - (xs.length : Int) < 0) := by omega
    have hlb : xs.length ≤ 100000000 := by omega
    generalize 1048576 - (xs.length : Int) = left at *
    clear hl
    obtain ⟨v, hv⟩ : ∃ v, triAt xs a1 a2 = v := ⟨_, rfl⟩
    have hvv : (v != v) = false := by simp
    have Hv := Lib.hid hv
    clear hv
    go_enter Try.func10, Try.ntmps10
    go_wp2_with fail
    generalize hw1 : (w.alloc (.cells #[.slice a0 xs.length cap0] 43)) = v0 at *
    clear hw1
    refine (cz _).mono ?_
    rintro e w1 ⟨rfl, g1⟩
    have n1 := g1.cell C1.out (by simp)
    clear cz
    go_wp2_with fail
    refine (toT_any a0 cap0 xs hlb w1 (HX.out.grown g1)).mono ?_
    rintro e w2 ⟨b2, c2, rfl, ho2, g2⟩
    have cs := stat_any b2 c2 xs a1 a2 w2 (ho2.at hm)
    rw [Hv.out] at cs
    clear n1 ho2
    go_wp2_with fail
    refine cs.mono ?_
    rintro e w3 ⟨rfl, g3⟩
    have h13 := grownBy_trans g1 (grownBy_trans g2 g3)
    have n1 := h13.cell C1.out (by simp)
    clear cs g2 g3
    go_wp2_with fail
    refine (toT_any a0 cap0 xs hlb w3 (HX.out.grown h13)).mono ?_
    rintro e w4 ⟨b4, c4, rfl, ho4, g4⟩
    have ga : w4.grownBy (w4.alloc (.cells #[.slice b4 xs.length c4] 25)) none := World.grownBy_alloc _ _ none
    have T5 := Lib.hid (T1.new w4 (.slice b4 xs.length c4))
    have I5 := Lib.hid ((ho4.kept ga).at hm)
    have h15 := grownBy_trans h13 (grownBy_trans g4 ga)
    have n5 := T5.out.cell
    generalize hw5 : w4.alloc (.cells #[.slice b4 xs.length c4] 25) = v5 at *
    have ci := itat_any b4 c4 xs a1 a2 v5 I5.out
    rw [Hv.out] at ci
    clear n1 ho4 g4 ga h13
    go_wp2_with fail
    clear hw5
    refine ci.mono ?_
    rintro e w6 ⟨rfl, g6⟩
    have h16 := grownBy_trans h15 g6
    have hb : w6.drew.cell? ⟨w4.heap.size, 0, none⟩ = some (.slice b4 xs.length c4) ∧ w6.drew.cell? ⟨w.heap.size, 0, none⟩ = some (.slice a0 xs.length cap0) ∧ v0.grownBy w6.drew none := ⟨g6.cell n5 (by simp), h16.cell C1.out (by simp), grownBy_drew h16⟩
    have J5 := Lib.hid (I5.out.grown g6)
    clear ci n5
    go_wp2_with fail
    refine wp_region_noPanic ?_
    refine wp_region_held_drew (S := fun w' => w'.cell? ⟨w4.heap.size, 0, none⟩ = some (.slice b4 xs.length c4) ∧ w'.cell? ⟨w.heap.size, 0, none⟩ = some (.slice a0 xs.length cap0) ∧ v0.grownBy w' none) (by kernel_rfl) hb (fun hH => ?_)
    refine take_an 0 30 (v := ?v4) rfl rfl (by kernel_rfl) (by kernel_rfl) (by kernel_rfl) (fun _ _ _ h => h) (by rfl) ?y4 hH ?r4
    case y4 => (rintro w ⟨p0, p1, p2⟩; go_simp; try with_reducible rfl)
    simp only [Act.put, List.setIfInBounds_toArray, List.set_cons_zero, List.set_cons_succ]
    refine take_an 1 31 (v := ?v5) rfl rfl (by kernel_rfl) (by kernel_rfl) (by kernel_rfl) (fun _ _ _ h => h) (by rfl) ?y5 hH ?r5
    case y5 => (rintro w ⟨p0, p1, p2⟩; go_simp; try with_reducible rfl)
    simp only [Act.put, List.setIfInBounds_toArray, List.set_cons_zero, List.set_cons_succ]
    refine wpAnyH_ready (rs := [2]) (by kernel_rfl) (by simp) ?_
    refine AllReadyH.cons rfl (fun K hK => ?_) AllReadyH.nil
    go_simp
    refine (toT_any a0 cap0 xs hlb w6.drew (HX.out.grown hH.2.2)).mono ?_
    rintro e w7 ⟨b7, c7, rfl, ho7, g7⟩
    have I7 := Lib.hid (ho7.at hm)
    clear ho7
    go_wp2_with fail
    refine hK.out _ _ (held_2 hH g7) (fun h7 => ?_)
    clear hK K
    try simp only [Act.put, List.setIfInBounds_toArray, List.set_cons_zero, List.set_cons_succ]
    refine wpAnyH_ready (rs := [3]) (by kernel_rfl) (by simp) ?_
    refine AllReadyH.cons rfl (fun K hK => ?_) AllReadyH.nil
    go_simp
    have ce := eqT_any b4 b7 c4 c7 xs xs w7 (J5.out.grown (grownBy_trans (show w6.grownBy w6.drew none from grownBy_drew (grownBy_refl _ _)) g7)) I7.out
    rw [sameL_self] at ce
    refine ce.mono ?_
    rintro e w8 ⟨rfl, g8⟩
    clear ce
    go_wp2_with fail
    refine hK.out _ _ (held_2 h7 g8) (fun h8 => ?_)
    clear hK K
    try simp only [Act.put, List.setIfInBounds_toArray, List.set_cons_zero, List.set_cons_succ]
    refine take_an 4 34 (v := ?v6) rfl rfl (by kernel_rfl) (by kernel_rfl) (by kernel_rfl) (fun _ _ _ h => h) (by rfl) ?y6 h8 ?r6
    case y6 => (rintro w ⟨p0, p1, p2⟩; go_simp; try with_reducible rfl)
    simp only [Act.put, List.setIfInBounds_toArray, List.set_cons_zero, List.set_cons_succ]
    refine wpAnyH_done (by kernel_rfl) ?_ _
    refine NoPanic.normal ?_
    go_wp2_with fail
    go_ret
    exact ⟨rfl, below_of (grownBy_trans G0.out h8.2.2)⟩
  · have cz := fun w => szT_no a0 xs.length cap0 1048576 hm (by omega) hl w
    clear hl
    go_enter Try.func10, Try.ntmps10
    go_wp2_with fail
    refine (cz _).mono ?_
    rintro e w1 ⟨rfl, g1⟩
    clear cz
    go_wp2_with fail
    go_ret
    exact ⟨rfl, below_of (grownBy_trans G0.out g1)⟩

set_option maxHeartbeats 4000000 in
theorem FnExactRegularOk_walk (a0 : Option Addr) (len0 cap0 : Nat) (z0 : List Int) (w : World) (w0 : IsRow .i64 w a0 len0 cap0 z0) :
    Calls Try.prog 12 #[.agg #[.slice a0 len0 cap0]] w fun e w' => e = .returned (.bool true) ∧ Below w.heap.size w w' := by
  obtain ⟨xs, rfl, hX⟩ := row_ints w0
  clear w0
  have g0 : w.grownBy (w.alloc (.cells #[.slice a0 xs.length cap0] 43)) none := World.grownBy_alloc _ _ none
  have hm := hX.1
  have hHX := Lib.hid hX
  have HX := Lib.hid (hX.grown g0)
  have C1 := Lib.hid (cell_new1 w (.slice a0 xs.length cap0) 43)
  have G0 := Lib.hid g0
  clear hX g0
  by_cases hl : (xs.length : Int) ≤ 1048576
  · have cz := fun w => szT_yes a0 xs.length cap0 1048576 hm (by omega) hl w
    have hge : ¬ (1048576 - (xs.length : Int) < 0) := by omega
    have hlb : xs.length ≤ 100000000 := by omega
    generalize 1048576 - (xs.length : Int) = left at *
    clear hl
    obtain ⟨v, hv⟩ : ∃ v, regB xs = v := ⟨_, rfl⟩
    have hvv : (v != v) = false := by simp
    have Hv := Lib.hid hv
    clear hv
    go_enter Try.func12, Try.ntmps12
    go_wp2_with fail
    generalize hw1 : (w.alloc (.cells #[.slice a0 xs.length cap0] 43)) = v0 at *
    clear hw1
    refine (cz _).mono ?_
    rintro e w1 ⟨rfl, g1⟩
    have n1 := g1.cell C1.out (by simp)
    clear cz
    go_wp2_with fail
    refine (toT_any a0 cap0 xs hlb w1 (HX.out.grown g1)).mono ?_
    rintro e w2 ⟨b2, c2, rfl, ho2, g2⟩
    have cs := sreg_any b2 c2 xs w2 (ho2.at hm)
    rw [Hv.out] at cs
    clear n1 ho2
    go_wp2_with fail
    refine cs.mono ?_
    rintro e w3 ⟨rfl, g3⟩
    have h13 := grownBy_trans g1 (grownBy_trans g2 g3)
    have n1 := h13.cell C1.out (by simp)
    clear cs g2 g3
    go_wp2_with fail
    refine (toT_any a0 cap0 xs hlb w3 (HX.out.grown h13)).mono ?_
    rintro e w4 ⟨b4, c4, rfl, ho4, g4⟩
    have ga : w4.grownBy (w4.alloc (.cells #[.slice b4 xs.length c4] 25)) none := World.grownBy_alloc _ _ none
    have T5 := Lib.hid (T1.new w4 (.slice b4 xs.length c4))
    have I5 := Lib.hid ((ho4.kept ga).at hm)
    have h15 := grownBy_trans h13 (grownBy_trans g4 ga)
    have n5 := T5.out.cell
    generalize hw5 : w4.alloc (.cells #[.slice b4 xs.length c4] 25) = v5 at *
    have ci := ireg_any b4 c4 xs v5 I5.out
    rw [Hv.out] at ci
    clear n1 ho4 g4 ga h13
    go_wp2_with fail
    clear hw5
    refine ci.mono ?_
    rintro e w6 ⟨rfl, g6⟩
    have h16 := grownBy_trans h15 g6
    have hb : w6.drew.cell? ⟨w4.heap.size, 0, none⟩ = some (.slice b4 xs.length c4) ∧ w6.drew.cell? ⟨w.heap.size, 0, none⟩ = some (.slice a0 xs.length cap0) ∧ v0.grownBy w6.drew none := ⟨g6.cell n5 (by simp), h16.cell C1.out (by simp), grownBy_drew h16⟩
    have J5 := Lib.hid (I5.out.grown g6)
    clear ci n5
    go_wp2_with fail
    refine wp_region_noPanic ?_
    refine wp_region_held_drew (S := fun w' => w'.cell? ⟨w4.heap.size, 0, none⟩ = some (.slice b4 xs.length c4) ∧ w'.cell? ⟨w.heap.size, 0, none⟩ = some (.slice a0 xs.length cap0) ∧ v0.grownBy w' none) (by kernel_rfl) hb (fun hH => ?_)
    refine take_an 0 22 (v := ?v7) rfl rfl (by kernel_rfl) (by kernel_rfl) (by kernel_rfl) (fun _ _ _ h => h) (by rfl) ?y7 hH ?r7
    case y7 => (rintro w ⟨p0, p1, p2⟩; go_simp; try with_reducible rfl)
    simp only [Act.put, List.setIfInBounds_toArray, List.set_cons_zero, List.set_cons_succ]
    refine take_an 1 23 (v := ?v8) rfl rfl (by kernel_rfl) (by kernel_rfl) (by kernel_rfl) (fun _ _ _ h => h) (by rfl) ?y8 hH ?r8
    case y8 => (rintro w ⟨p0, p1, p2⟩; go_simp; try with_reducible rfl)
    simp only [Act.put, List.setIfInBounds_toArray, List.set_cons_zero, List.set_cons_succ]
    refine wpAnyH_ready (rs := [2]) (by kernel_rfl) (by simp) ?_
    refine AllReadyH.cons rfl (fun K hK => ?_) AllReadyH.nil
    go_simp
    refine (toT_any a0 cap0 xs hlb w6.drew (HX.out.grown hH.2.2)).mono ?_
    rintro e w7 ⟨b7, c7, rfl, ho7, g7⟩
    have I7 := Lib.hid (ho7.at hm)
    clear ho7
    go_wp2_with fail
    refine hK.out _ _ (held_2 hH g7) (fun h7 => ?_)
    clear hK K
    try simp only [Act.put, List.setIfInBounds_toArray, List.set_cons_zero, List.set_cons_succ]
    refine wpAnyH_ready (rs := [3]) (by kernel_rfl) (by simp) ?_
    refine AllReadyH.cons rfl (fun K hK => ?_) AllReadyH.nil
    go_simp
    have ce := eqT_any b4 b7 c4 c7 xs xs w7 (J5.out.grown (grownBy_trans (show w6.grownBy w6.drew none from grownBy_drew (grownBy_refl _ _)) g7)) I7.out
    rw [sameL_self] at ce
    refine ce.mono ?_
    rintro e w8 ⟨rfl, g8⟩
    clear ce
    go_wp2_with fail
    refine hK.out _ _ (held_2 h7 g8) (fun h8 => ?_)
    clear hK K
    try simp only [Act.put, List.setIfInBounds_toArray, List.set_cons_zero, List.set_cons_succ]
    refine take_an 4 26 (v := ?v9) rfl rfl (by kernel_rfl) (by kernel_rfl) (by kernel_rfl) (fun _ _ _ h => h) (by rfl) ?y9 h8 ?r9
    case y9 => (rintro w ⟨p0, p1, p2⟩; go_simp; try with_reducible rfl)
    simp only [Act.put, List.setIfInBounds_toArray, List.set_cons_zero, List.set_cons_succ]
    refine wpAnyH_done (by kernel_rfl) ?_ _
    refine NoPanic.normal ?_
    go_wp2_with fail
    go_ret
    exact ⟨rfl, below_of (grownBy_trans G0.out h8.2.2)⟩
  · have cz := fun w => szT_no a0 xs.length cap0 1048576 hm (by omega) hl w
    clear hl
    go_enter Try.func12, Try.ntmps12
    go_wp2_with fail
    refine (cz _).mono ?_
    rintro e w1 ⟨rfl, g1⟩
    clear cz
    go_wp2_with fail
    go_ret
    exact ⟨rfl, below_of (grownBy_trans G0.out g1)⟩

end Go.Proofs.Ytbhfbpmfbknalaa
