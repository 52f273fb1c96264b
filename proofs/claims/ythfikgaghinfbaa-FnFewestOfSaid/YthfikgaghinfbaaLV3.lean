/-
  The walks of FnEnoughOk and FnFewestOf.
-/
import Derived.Test.YthfikgaghinfbaaLV2
import Derived.Test.YthfikgaghinfbaaLEno
import Derived.Deep.RegionHeld3
namespace Go.Proofs.Ythfikgaghinfbaa
open Go.RowKit

section
variable {P : Program} {ops : Array Oper} {Q : Exit → Act → World → Prop} {md : Region.Mode} {S : World → Prop}
theorem ltake_an (i d : Nat) {oi : Oper} {v : Value} {fuel : Nat} {listed : Array Bool} {a : Act} {w : World} (hi : ops[i]? = some oi) (hd : oi.dst = some d) (hs : Region.noSelect ops = true) (hf : Region.free md ops listed i = true) (hr : (Region.ready md ops listed).contains i = true)
    (hQ : ∀ c a w, Q (.panic c) (a.put (some d) v) w → Q (.panic c) a w) (hw : Region.wanted oi (yielded ops a.tmps) = true) (hy : ∀ w, S w → (execOp a.eval oi).run P w = .ok (.value v) w) (hS : S w) (h : wpAnyH P md ops Q S fuel (listed.setIfInBounds i true) (a.put (some d) v) w) : wpAnyH P md ops Q S (fuel + 1) listed a w :=
  wpAnyH_take hi hs hf hr (by rw [hd]; exact hQ) (Or.inl ⟨hw, hy⟩) hS (by rw [hd]; exact h)
theorem ldrop_an (i d : Nat) {oi : Oper} {fuel : Nat} {listed : Array Bool} {a : Act} {w : World} (hi : ops[i]? = some oi) (hd : oi.dst = some d) (hs : Region.noSelect ops = true) (hf : Region.free md ops listed i = true) (hr : (Region.ready md ops listed).contains i = true)
    (hQ : ∀ c a w, Q (.panic c) (a.put (some d) undef) w → Q (.panic c) a w) (hw : Region.wanted oi (yielded ops a.tmps) = false) (hS : S w) (h : wpAnyH P md ops Q S fuel (listed.setIfInBounds i true) (a.put (some d) undef) w) : wpAnyH P md ops Q S (fuel + 1) listed a w :=
  wpAnyH_take hi hs hf hr (by rw [hd]; exact hQ) (Or.inr ⟨hw, rfl⟩) hS (by rw [hd]; exact h)
end

theorem enW_in {N : Nat} {xs : List Int} (hg : gameB (N : Int) xs = true) {Q : Nat} (hQ : Q ≤ 12) : enW (N : Int) xs (Q : Int) = enB N xs Q := by
  unfold enW
  rw [hg, inB_t (by omega)]
  rfl

set_option maxRecDepth 100000 in
set_option maxHeartbeats 4000000 in
theorem FnEnoughOk_walk (a0 : Option Addr) (len0 cap0 : Nat) (z0 : List Int) (w : World) (w0 : IsRow .u8 w a0 len0 cap0 z0) :
    Calls Try.prog 7 #[.slice a0 len0 cap0] w fun e w' => e = .returned (.bool true) ∧ Below w.heap.size w w' := by
  by_cases hl : (1048576 : Int) < (len0 : Int)
  · clear w0
    go_enter Try.func7, Try.ntmps7
    go_wp2_with fail
    go_ret
    exact ⟨rfl, Below.refl _ _⟩
  · go_enter Try.func7, Try.ntmps7
    go_wp2_with fail
    refine (DrawEnoughOk_any _ _ _ _ _ w0).mono ?_
    rintro e w1 ⟨n, xs, a, ca, q, rfl, n1, n2, x3, hX, q1, q2, g1⟩
    clear w0
    have HX := Lib.hid hX
    clear hX
    have c1 := fun w h => ienough_any n a ca xs q w h
    have c2 := fun w h => senough_any n a ca xs q w h
    cases he : enW n xs q
    · rw [he] at c1 c2
      clear he
      go_wp2_with fail
      refine (c1 _ HX.out).mono ?_
      rintro e w2 ⟨rfl, g2⟩
      clear c1
      go_wp2_with fail
      refine (c2 _ (HX.out.grown g2)).mono ?_
      rintro e w3 ⟨rfl, g3⟩
      clear c2
      go_wp2_with (go_at_call 20; refine (alive_any _).mono ?_; rintro e w' ⟨rfl, rfl⟩)
      go_ret
      exact ⟨rfl, below_of (grownBy_trans g1 (grownBy_trans g2 g3))⟩
    · rw [he] at c1 c2
      have he2 := he
      unfold enW at he2
      rw [Bool.and_eq_true, Bool.and_eq_true] at he2
      obtain ⟨hg, hs, _⟩ := he2
      obtain ⟨Q, rfl⟩ := Int.eq_ofNat_of_zero_le (inB_of hs).1
      obtain ⟨N, rfl⟩ := Int.eq_ofNat_of_zero_le (show 0 ≤ n by have := (gameB_of hg).1; omega)
      have hQ : Q ≤ 12 := by have := inB_of hs; omega
      rw [enW_in hg hQ] at he
      have hw := en_weight hg hQ he
      have hmore := en_more hg hQ he
      have c3 := fun w h => iweight_any (N : Int) a ca xs (Q : Int) w h
      rw [weightW_in hg hQ] at c3
      obtain ⟨p1, p2, p3, p4⟩ := pow_sh hQ
      have q0 : (0 : Int) ≤ (Q : Int) := by omega
      have q12 : (Q : Int) ≤ 12 := by omega
      by_cases h12 : Q = 12
      · subst h12
        generalize weightL xs 12 = W at *
        have hw4 : W ≤ 4096 := hw
        have w4096 : IntKind.i64.wrap 4096 = 4096 := IntWalk.i64_in _ (by omega)
        have hle : decide ((W : Int) ≤ 4096) = true := decide_eq_true (by omega)
        have hle2 : decide (W ≤ 4096) = true := decide_eq_true hw4
        have hle3 : (W : Int) ≤ 4096 := by omega
        clear hs hQ he hw hmore p1 p2 p3 p4 hw4
        go_wp2_with fail
        refine (c1 _ HX.out).mono ?_
        rintro e w2 ⟨rfl, g2⟩
        clear c1
        go_wp2_with fail
        refine (c2 _ (HX.out.grown g2)).mono ?_
        rintro e w3 ⟨rfl, g3⟩
        clear c2
        have G3 := grownBy_trans g1 (grownBy_trans g2 g3)
        have i3 : IntsAt w3.drew a xs := HX.out.grown (grownBy_drew (grownBy_trans g2 g3))
        go_wp2_with fail
        refine wp_region_noPanic ?_
        refine wp_region_held_drew (S := fun _ => True) (by kernel_rfl) trivial (fun hH => ?_)
        refine ltake_an 0 29 (v := ?vp1) rfl rfl (by kernel_rfl) (by kernel_rfl) (by kernel_rfl) (fun _ _ _ h => h) (by rfl) ?yp1 hH ?rp1
        case yp1 => (intro w _; go_simp; try with_reducible rfl)
        try simp only [Act.put, List.setIfInBounds_toArray, List.set_cons_zero, List.set_cons_succ]
        refine ltake_an 1 30 (v := ?vp2) rfl rfl (by kernel_rfl) (by kernel_rfl) (by kernel_rfl) (fun _ _ _ h => h) (by rfl) ?yp2 hH ?rp2
        case yp2 => (intro w _; go_simp; try with_reducible rfl)
        try simp only [Act.put, List.setIfInBounds_toArray, List.set_cons_zero, List.set_cons_succ]
        refine ltake_an 2 31 (v := ?vp3) rfl rfl (by kernel_rfl) (by kernel_rfl) (by kernel_rfl) (fun _ _ _ h => h) (by rfl) ?yp3 hH ?rp3
        case yp3 => (intro w _; go_simp; try with_reducible rfl)
        try simp only [Act.put, List.setIfInBounds_toArray, List.set_cons_zero, List.set_cons_succ]
        refine ltake_an 4 33 (v := ?vp4) rfl rfl (by kernel_rfl) (by kernel_rfl) (by kernel_rfl) (fun _ _ _ h => h) (by rfl) ?yp4 hH ?rp4
        case yp4 => (intro w _; go_simp; try with_reducible rfl)
        try simp only [Act.put, List.setIfInBounds_toArray, List.set_cons_zero, List.set_cons_succ]
        refine ltake_an 5 34 (v := ?vp5) rfl rfl (by kernel_rfl) (by kernel_rfl) (by kernel_rfl) (fun _ _ _ h => h) (by rfl) ?yp5 hH ?rp5
        case yp5 => (intro w _; go_simp; try with_reducible rfl)
        try simp only [Act.put, List.setIfInBounds_toArray, List.set_cons_zero, List.set_cons_succ]
        refine wpAnyH_ready (rs := [3]) (by kernel_rfl) (by simp) ?_
        refine AllReadyH.cons rfl (fun K hK => ?_) AllReadyH.nil
        go_simp
        refine (c3 _ i3).mono ?_
        rintro e w4 ⟨rfl, g4⟩
        go_wp2_with fail
        refine hK.out _ _ trivial (fun hp1 => ?_)
        clear hK K
        try simp only [Act.put, List.setIfInBounds_toArray, List.set_cons_zero, List.set_cons_succ]
        refine ltake_an 6 35 (v := ?vp6) rfl rfl (by kernel_rfl) (by kernel_rfl) (by kernel_rfl) (fun _ _ _ h => h) (by rfl) ?yp6 hp1 ?rp6
        case yp6 => (intro w _; go_simp; try with_reducible rfl)
        try simp only [Act.put, List.setIfInBounds_toArray, List.set_cons_zero, List.set_cons_succ]
        refine ltake_an 7 36 (v := ?vp7) rfl rfl (by kernel_rfl) (by kernel_rfl) (by kernel_rfl) (fun _ _ _ h => h) (by rfl) ?yp7 hp1 ?rp7
        case yp7 => (intro w _; go_simp; try with_reducible rfl)
        try simp only [Act.put, List.setIfInBounds_toArray, List.set_cons_zero, List.set_cons_succ]
        refine ltake_an 8 37 (v := ?vp8) rfl rfl (by kernel_rfl) (by kernel_rfl) (by kernel_rfl) (fun _ _ _ h => h) (by rfl) ?yp8 hp1 ?rp8
        case yp8 => (intro w _; go_simp; try with_reducible rfl)
        try simp only [Act.put, List.setIfInBounds_toArray, List.set_cons_zero, List.set_cons_succ]
        refine ltake_an 9 38 (v := ?vp9) rfl rfl (by kernel_rfl) (by kernel_rfl) (by kernel_rfl) (fun _ _ _ h => h) (by rfl) ?yp9 hp1 ?rp9
        case yp9 => (intro w _; go_simp; try with_reducible rfl)
        try simp only [Act.put, List.setIfInBounds_toArray, List.set_cons_zero, List.set_cons_succ]
        refine ltake_an 10 39 (v := ?vp10) rfl rfl (by kernel_rfl) (by kernel_rfl) (by kernel_rfl) (fun _ _ _ h => h) (by rfl) ?yp10 hp1 ?rp10
        case yp10 => (intro w _; go_simp; try with_reducible rfl)
        try simp only [Act.put, List.setIfInBounds_toArray, List.set_cons_zero, List.set_cons_succ]
        refine ldrop_an 11 40 rfl rfl (by kernel_rfl) (by kernel_rfl) (by kernel_rfl) (fun _ _ _ h => h) (by rfl) hp1 ?_
        try simp only [Act.put, List.setIfInBounds_toArray, List.set_cons_zero, List.set_cons_succ]
        refine ldrop_an 12 41 rfl rfl (by kernel_rfl) (by kernel_rfl) (by kernel_rfl) (fun _ _ _ h => h) (by rfl) hp1 ?_
        try simp only [Act.put, List.setIfInBounds_toArray, List.set_cons_zero, List.set_cons_succ]
        refine ldrop_an 13 42 rfl rfl (by kernel_rfl) (by kernel_rfl) (by kernel_rfl) (fun _ _ _ h => h) (by rfl) hp1 ?_
        try simp only [Act.put, List.setIfInBounds_toArray, List.set_cons_zero, List.set_cons_succ]
        refine ldrop_an 14 43 rfl rfl (by kernel_rfl) (by kernel_rfl) (by kernel_rfl) (fun _ _ _ h => h) (by rfl) hp1 ?_
        try simp only [Act.put, List.setIfInBounds_toArray, List.set_cons_zero, List.set_cons_succ]
        refine wpAnyH_ready (rs := [15]) (by kernel_rfl) (by simp) ?_
        refine AllReadyH.cons rfl (fun K hK => ?_) AllReadyH.nil
        go_simp
        refine hK.out _ _ trivial (fun hp2 => ?_)
        clear hK K
        try simp only [Act.put, List.setIfInBounds_toArray, List.set_cons_zero, List.set_cons_succ]
        refine ltake_an 16 45 (v := ?vp11) rfl rfl (by kernel_rfl) (by kernel_rfl) (by kernel_rfl) (fun _ _ _ h => h) (by rfl) ?yp11 hp2 ?rp11
        case yp11 => (intro w _; go_simp; try with_reducible rfl)
        try simp only [Act.put, List.setIfInBounds_toArray, List.set_cons_zero, List.set_cons_succ]
        refine ltake_an 17 46 (v := ?vp12) rfl rfl (by kernel_rfl) (by kernel_rfl) (by kernel_rfl) (fun _ _ _ h => h) (by rfl) ?yp12 hp2 ?rp12
        case yp12 => (intro w _; go_simp; try with_reducible rfl)
        try simp only [Act.put, List.setIfInBounds_toArray, List.set_cons_zero, List.set_cons_succ]
        refine ltake_an 18 47 (v := ?vp13) rfl rfl (by kernel_rfl) (by kernel_rfl) (by kernel_rfl) (fun _ _ _ h => h) (by rfl) ?yp13 hp2 ?rp13
        case yp13 => (intro w _; go_simp; try with_reducible rfl)
        try simp only [Act.put, List.setIfInBounds_toArray, List.set_cons_zero, List.set_cons_succ]
        refine wpAnyH_ready (rs := [19]) (by kernel_rfl) (by simp) ?_
        refine AllReadyH.cons rfl (fun K hK => ?_) AllReadyH.nil
        go_simp
        refine (alive_any _).mono ?_
        rintro e w' ⟨rfl, rfl⟩
        go_wp2_with fail
        refine hK.out _ _ trivial (fun hp3 => ?_)
        clear hK K
        try simp only [Act.put, List.setIfInBounds_toArray, List.set_cons_zero, List.set_cons_succ]
        refine ltake_an 20 49 (v := ?vp14) rfl rfl (by kernel_rfl) (by kernel_rfl) (by kernel_rfl) (fun _ _ _ h => h) (by rfl) ?yp14 hp3 ?rp14
        case yp14 => (intro w _; go_simp; try with_reducible rfl)
        try simp only [Act.put, List.setIfInBounds_toArray, List.set_cons_zero, List.set_cons_succ]
        refine ltake_an 21 2 (v := ?vp15) rfl rfl (by kernel_rfl) (by kernel_rfl) (by kernel_rfl) (fun _ _ _ h => h) (by rfl) ?yp15 hp3 ?rp15
        case yp15 => (intro w _; go_simp; try with_reducible rfl)
        try simp only [Act.put, List.setIfInBounds_toArray, List.set_cons_zero, List.set_cons_succ]
        refine wpAnyH_done (by kernel_rfl) ?_ _
        refine NoPanic.normal ?_
        go_wp2_with fail
        go_ret
        exact ⟨rfl, below_of (grownBy_trans G3 (lundrew g4))⟩
      · generalize weightL xs Q = W at *
        generalize 2 ^ Q = P at *
        have hle : decide ((W : Int) ≤ (P : Int)) = true := decide_eq_true (by omega)
        have hle2 : decide (W ≤ P) = true := decide_eq_true hw
        have h12' : ((Q : Int) == 12) = false := by simp; omega
        have hq1 : (Q : Int) + 1 = ((Q + 1 : Nat) : Int) := by omega
        have c4 := fun w h => ienough_any (N : Int) a ca xs ((Q + 1 : Nat) : Int) w h
        rw [enW_in hg (by omega), hmore, ← hq1] at c4
        have hne : ¬ ((Q : Int) = 12) := by omega
        have q11 : (Q : Int) ≤ 11 := by omega
        have hwq : IntKind.i64.wrap ((Q : Int) + 1) = (Q : Int) + 1 := IntWalk.i64_in _ (by omega)
        clear hs hQ he hw hmore hq1 h12
        go_wp2_with fail
        refine (c1 _ HX.out).mono ?_
        rintro e w2 ⟨rfl, g2⟩
        clear c1
        go_wp2_with fail
        refine (c2 _ (HX.out.grown g2)).mono ?_
        rintro e w3 ⟨rfl, g3⟩
        clear c2
        have G23 := grownBy_trans g2 g3
        have G3 := Lib.hid (grownBy_trans g1 G23)
        have i3 : IntsAt w3.drew a xs := HX.out.grown (grownBy_drew G23)
        clear g1 g2 g3 G23
        go_wp2_with fail
        go_region_held3 (fun _ => True) (exact True.intro) (first
          | (go_at_call 30; (with_reducible refine (c3 _ (by assumption)).mono ?_); rintro e w4 ⟨rfl, g4⟩; have i4 : IntsAt w4 a xs := IntsAt.grown (by assumption) g4)
          | (go_at_call 33; (with_reducible refine (c4 _ (by assumption)).mono ?_); rintro e w5 ⟨rfl, g5⟩)
          | (go_at_call 20; (with_reducible refine (alive_any _).mono ?_); rintro e w' ⟨rfl, rfl⟩))
        all_goals
          go_wp2_with fail
          go_ret
          exact ⟨rfl, below_of (grownBy_trans G3.out (grownBy_trans (lundrew g4) g5))⟩

end Go.Proofs.Ythfikgaghinfbaa
