/-
  The walk of the law FnSameAt.
-/
import Derived.Test.YtkkmoaenlnibiaaAIs
namespace Go.Proofs.Ytkkmoaenlnibiaa
open Go.RowKit

theorem fol_bl (s t : ByteArray) : bl ((⟨#[40]⟩ : ByteArray) ++ s ++ ⟨#[62]⟩ ++ t ++ ⟨#[41]⟩) = 40 :: (bl s ++ (62 :: (bl t ++ [41]))) := by
  rw [bl_app, bl_app, bl_app, bl_app]
  show [40] ++ bl s ++ [62] ++ bl t ++ [41] = _
  simp

set_option maxRecDepth 100000 in
set_option maxHeartbeats 2000000 in
theorem FnSameAt_walk (a0 : Option Addr) (len0 cap0 : Nat) (z0 : List Int) (w : World) (w0 : IsRow .u8 w a0 len0 cap0 z0) :
    Calls Try.prog 6 #[.slice a0 len0 cap0] w fun e w' => e = .returned (.bool true) ∧ Below w.heap.size w w' := by
  by_cases hl : (1048576 : Int) < (len0 : Int)
  · clear w0
    go_enter Try.func6, Try.ntmps6
    go_wp2_with fail
    go_ret
    exact ⟨rfl, Below.refl _ _⟩
  · go_enter Try.func6, Try.ntmps6
    go_wp2_with fail
    refine (DrawSameAt_any _ _ _ _ _ w0).mono ?_
    rintro e w1 ⟨n, s, t, rfl, hs, ht, n1, n2, g1⟩
    clear w0
    have ml : maxLen = 9223372036854775807 := rfl
    by_cases hneg : leastI n (bl s) < 0
    · have hz : sameI n (bl s) (bl t) = false := by
        rcases (least_neg n (bl s)).1 hneg with h | h
        · exact sameI_o h
        · exact sameI_n h
      have c1 := same_is n s t hz
      have c2 := ssame_is n s t hz
      have c3 := sleast_is n s (least_m1 hneg)
      clear hneg hz
      go_wp2_with fail
      refine (c1 _).mono ?_
      rintro e w2 ⟨rfl, g2⟩
      clear c1
      go_wp2_with fail
      refine (c2 _).mono ?_
      rintro e w3 ⟨rfl, g3⟩
      clear c2
      go_wp2_with fail
      refine (c3 _).mono ?_
      rintro e w4 ⟨rfl, g4⟩
      clear c3
      go_wp2_with (go_at_call 18; refine (alive_any _).mono ?_; rintro e w' ⟨rfl, rfl⟩)
      go_ret
      exact ⟨rfl, below_of (grownBy_trans g1 (grownBy_trans g2 (grownBy_trans g3 g4)))⟩
    · obtain ⟨N, x, rfl, hN, ho⟩ := least_pos hneg
      have d0 : decide (leastI N (bl s) < 0) = false := decide_eq_false hneg
      have c3 := sleast_any N s
      cases hf : isF (bl t)
      · have hz : sameI N (bl s) (bl t) = false := sameI_m (isF_not hf)
        have c1 := same_is N s t hz
        have c2 := ssame_is N s t hz
        have c4 := sfrm_is t hf
        clear hneg hz hf ho
        generalize leastI N (bl s) = q at *
        go_wp2_with fail
        refine (c1 _).mono ?_
        rintro e w2 ⟨rfl, g2⟩
        clear c1
        go_wp2_with fail
        refine (c2 _).mono ?_
        rintro e w3 ⟨rfl, g3⟩
        clear c2
        go_wp2_with fail
        refine (c3 _).mono ?_
        rintro e w4 ⟨rfl, g4⟩
        clear c3
        go_wp2_with fail
        refine (c4 _).mono ?_
        rintro e w5 ⟨rfl, rfl⟩
        clear c4
        go_wp2_with (go_at_call 18; refine (alive_any _).mono ?_; rintro e w' ⟨rfl, rfl⟩)
        go_ret
        exact ⟨rfl, below_of (grownBy_trans g1 (grownBy_trans g2 (grownBy_trans g3 g4)))⟩
      · have hi : inB (N : Int) 1 6 = true := inB_nat hN
        have c4 := sfrm_is t hf
        have c7 := same_is N t s (sameI_comm N (bl s) (bl t))
        have c1 := samat_any N s t
        have c2 := ssamat_any N s t
        by_cases hb : (bl s).length + (bl t).length + 3 ≤ 60
        · have hd : decide ((60 : Int) < (s.size : Int) + (t.size : Int) + 3) = false := by rw [bl_size, bl_size]; exact decide_eq_false (by omega)
          have e := sameI_fol hi (isF_t ho) hf hb
          have c5 := always_any N ((⟨#[40]⟩ : ByteArray) ++ s ++ ⟨#[62]⟩ ++ t ++ ⟨#[41]⟩)
          have c6 := always_any N ((⟨#[40]⟩ : ByteArray) ++ t ++ ⟨#[62]⟩ ++ s ++ ⟨#[41]⟩)
          rw [fol_bl] at c5 c6
          rw [e] at c1 c2 c7
          clear hneg hf ho hi hb e
          generalize leastI N (bl s) = q at *
          generalize alwB N (40 :: (bl s ++ (62 :: (bl t ++ [41])))) = b1 at *
          generalize alwB N (40 :: (bl t ++ (62 :: (bl s ++ [41])))) = b2 at *
          cases b1
          · clear c6
            go_wp2_with fail
            refine (c1 _).mono ?_
            rintro e w2 ⟨rfl, g2⟩
            clear c1
            go_wp2_with fail
            refine (c2 _).mono ?_
            rintro e w3 ⟨rfl, g3⟩
            clear c2
            go_wp2_with fail
            refine (c3 _).mono ?_
            rintro e w4 ⟨rfl, g4⟩
            clear c3
            go_wp2_with fail
            refine (c4 _).mono ?_
            rintro e w5 ⟨rfl, rfl⟩
            clear c4
            go_wp2_with fail
            refine (c5 _).mono ?_
            rintro e w6 ⟨rfl, g6⟩
            clear c5
            go_wp2_with fail
            refine (c7 _).mono ?_
            rintro e w7 ⟨rfl, g7⟩
            clear c7
            go_wp2_with fail
            go_ret
            exact ⟨rfl, below_of (grownBy_trans g1 (grownBy_trans g2 (grownBy_trans g3 (grownBy_trans g4 (grownBy_trans g6 g7)))))⟩
          · cases b2
            all_goals
              go_wp2_with fail
              refine (c1 _).mono ?_
              rintro e w2 ⟨rfl, g2⟩
              clear c1
              go_wp2_with fail
              refine (c2 _).mono ?_
              rintro e w3 ⟨rfl, g3⟩
              clear c2
              go_wp2_with fail
              refine (c3 _).mono ?_
              rintro e w4 ⟨rfl, g4⟩
              clear c3
              go_wp2_with fail
              refine (c4 _).mono ?_
              rintro e w5 ⟨rfl, rfl⟩
              clear c4
              go_wp2_with fail
              refine (c5 _).mono ?_
              rintro e w6 ⟨rfl, g6⟩
              clear c5
              go_wp2_with fail
              refine (c6 _).mono ?_
              rintro e w7 ⟨rfl, g7⟩
              clear c6
              go_wp2_with fail
              refine (c7 _).mono ?_
              rintro e w8 ⟨rfl, g8⟩
              clear c7
              go_wp2_with fail
              go_ret
              exact ⟨rfl, below_of (grownBy_trans g1 (grownBy_trans g2 (grownBy_trans g3 (grownBy_trans g4 (grownBy_trans g6 (grownBy_trans g7 g8))))))⟩
        · have hd : decide ((60 : Int) < (s.size : Int) + (t.size : Int) + 3) = true := by rw [bl_size, bl_size]; exact decide_eq_true (by omega)
          clear hneg hf ho hi hb c7
          generalize leastI N (bl s) = q at *
          generalize sameI N (bl s) (bl t) = b at *
          go_wp2_with fail
          refine (c1 _).mono ?_
          rintro e w2 ⟨rfl, g2⟩
          clear c1
          go_wp2_with fail
          refine (c2 _).mono ?_
          rintro e w3 ⟨rfl, g3⟩
          clear c2
          go_wp2_with fail
          refine (c3 _).mono ?_
          rintro e w4 ⟨rfl, g4⟩
          clear c3
          go_wp2_with fail
          refine (c4 _).mono ?_
          rintro e w5 ⟨rfl, rfl⟩
          clear c4
          go_wp2_with fail
          go_ret
          exact ⟨rfl, below_of (grownBy_trans g1 (grownBy_trans g2 (grownBy_trans g3 g4)))⟩

end Go.Proofs.Ytkkmoaenlnibiaa
