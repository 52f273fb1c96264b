/-
  The walk of the law FnRowAlike, out of what the functions answer.
-/
import Derived.Test.YtbalikemmilnaaaRV3
namespace Go.Proofs.Ytbalikemmilnaaa
open Go.RowKit

set_option maxRecDepth 100000 in
set_option maxHeartbeats 4000000 in
theorem FnRowAlike_of (H : RalkC) (HA : AlkC) (HF : RfarC) (a0 : Option Addr) (len0 cap0 : Nat) (z0 : List Int) (w : World) (w0 : IsRow .u8 w a0 len0 cap0 z0) :
    Calls Try.prog 7 #[.slice a0 len0 cap0] w fun e w' => e = .returned (.bool true) ∧ Below w.heap.size w w' := by
  by_cases hl : (1048576 : Int) < (len0 : Int)
  · clear w0
    go_enter Try.func7, Try.ntmps7
    go_wp2_with fail
    go_ret
    exact ⟨rfl, Below.refl _ _⟩
  · go_enter Try.func7, Try.ntmps7
    go_wp2_with fail
    refine (DrawRowAlike_any _ _ _ _ _ w0).mono ?_
    rintro e w1 ⟨n, x, y, a, b, ca, cb, rfl, n1, n2, x1, x5, y6, hX, hY, g1⟩
    clear w0
    have HX := Lib.hid hX
    have HY := Lib.hid hY
    clear hX hY
    cases hr : rowsB n x y
    · have c1 := ralk_v H n a b ca cb x y (ralkW_f hr)
      have c2 : ∀ w, IntsAt w a x → IntsAt w b y → Calls Try.prog 36 #[.int .i64 n, .slice a x.length ca, .slice b y.length cb] w fun e w' => e = .returned (.int .i64 (-1)) ∧ w.grownBy w' none := fun w h1 h2 => by rw [← ralkW_f hr]; exact sralk_any n a b ca cb x y w h1 h2
      clear hr
      go_wp2_with fail
      refine (c1 _ HX.out HY.out).mono ?_
      rintro e w2 ⟨rfl, g2⟩
      clear c1
      go_wp2_with fail
      refine (c2 _ (HX.out.grown g2) (HY.out.grown g2)).mono ?_
      rintro e w3 ⟨rfl, g3⟩
      clear c2
      go_wp2_with (go_at_call 18; refine (alive_any _).mono ?_; rintro e w' ⟨rfl, rfl⟩)
      go_ret
      exact ⟨rfl, below_of (grownBy_trans g1 (grownBy_trans g2 g3))⟩
    · have c1 := ralk_v H n a b ca cb x y (ralkW_t hr)
      have c2 : ∀ w, IntsAt w a x → IntsAt w b y → Calls Try.prog 36 #[.int .i64 n, .slice a x.length ca, .slice b y.length cb] w fun e w' => e = .returned (.int .i64 (alkM n x y x.length)) ∧ w.grownBy w' none := fun w h1 h2 => by rw [← ralkW_t hr]; exact sralk_any n a b ca cb x y w h1 h2
      obtain ⟨hx1, hy1, hlen⟩ := rowsB_of hr
      have c3 := rfar_v HF n a b ca cb x y (rfarW_t hr)
      have c4 := fun w => sameInts_any a b ca cb x y w
      have hz : (alkM n x y x.length == n) = sameL x y := alkM_eq hlen
      have m0 := alkM_pos hr x.length (Nat.le_refl _)
      have m1 := alkM_le n x y x.length
      have m2 := alkM_far n x y x.length
      have m3 := gapS_le hr x.length (Nat.le_refl _)
      have hat : Hid (∀ j, j < x.length → alkM n x y x.length ≤ n - gap (x.getD j 0) (y.getD j 0)) := fun j hj => alkM_at n x y x.length j hj
      have HR := Lib.hid hr
      have HL := Lib.hid hlen
      clear hr hx1 hy1 hlen
      generalize alkM n x y x.length = M at *
      generalize gapS x y x.length = R at *
      obtain ⟨S, hS⟩ : ∃ S : Bool, S = sameL x y := ⟨_, rfl⟩
      rw [← hS] at c4 hz
      clear hS
      have hSS : (S == S) = true := by simp
      have hMn : (M != M) = false := by simp
      have hd : decide (n - M ≤ R) = true := decide_eq_true m2
      go_wp2_with fail
      refine (c1 _ HX.out HY.out).mono ?_
      rintro e w2 ⟨rfl, g2⟩
      clear c1
      go_wp2_with fail
      refine (c2 _ (HX.out.grown g2) (HY.out.grown g2)).mono ?_
      rintro e w3 ⟨rfl, g3⟩
      clear c2
      have G := Lib.hid (grownBy_trans g1 (grownBy_trans g2 g3))
      have S1 := Lib.hid (HX.out.grown (grownBy_trans g2 g3))
      have S2 := Lib.hid (HY.out.grown (grownBy_trans g2 g3))
      clear g1 g2 g3 HX HY
      go_wp2_with fail
      go_loopw [7] (fun i wr => ∃ k : Nat, k ≤ x.length ∧ i = .int .i64 k ∧ w3.grownBy wr none) (fun i _ => x.length - (intOf i).toNat)
      case atStart => exact ⟨0, by omega, rfl, grownBy_refl _ _⟩
      case round =>
        obtain ⟨k, hk, rfl, hgr⟩ := hrel
        by_cases hlt : k < x.length
        · rcases (S1.out.grown hgr).2 with h0 | ⟨bx, ox, ha, hbx, hcx⟩
          · rw [h0] at hlt; simp at hlt
          rcases (S2.out.grown hgr).2 with h0 | ⟨by', oy, hb', hby, hcy⟩
          · have := HL.out; rw [h0] at this; simp only [List.length_nil] at this; omega
          subst ha
          subst hb'
          have hc1 := hcx k hlt
          have hc2 := hcy k (by have := HL.out; omega)
          have hly : k < y.length := by have := HL.out; omega
          have i0' : (0 : Int) ≤ (k : Int) := by omega
          have i1 : (k : Int) < (x.length : Int) := by omega
          have i2 : (k : Int) < (y.length : Int) := by omega
          have ht := rows_at HR.out hlt
          have hA := hat.out k hlt
          have ca' := alk_v HA n (x.getD k 0) (y.getD k 0) (alkW_t ht)
          have hb0 : wr.drew.cell? ⟨bx, ox + k, none⟩ = some (.int .i64 (x.getD k 0)) ∧ wr.drew.cell? ⟨by', oy + k, none⟩ = some (.int .i64 (y.getD k 0)) := ⟨hc1, hc2⟩
          clear hcx hcy hbx hby ht hc1 hc2
          generalize n - gap (x.getD k 0) (y.getD k 0) = A at *
          generalize x.getD k 0 = p at *
          generalize y.getD k 0 = q at *
          have hdA : decide (A < M) = false := decide_eq_false (by omega)
          go_wp2_with fail
          go_region_held3 (fun w' => w'.cell? ⟨bx, ox + k, none⟩ = some (.int .i64 p) ∧ w'.cell? ⟨by', oy + k, none⟩ = some (.int .i64 q))
            (first | exact hb0 | exact cells2 (by assumption) gx | assumption)
            (first | (go_at_call 24; (with_reducible refine (ca' _).mono ?_); rintro e w4 ⟨rfl, gx⟩))
          have hG := Lib.hid (grownBy_trans hgr (undrawR gx))
          clear hgr gx
          go_wp2_with fail
          go_roundw
          case rel => exact ⟨k + 1, by omega, by go_num, hG.out⟩
          case measure => simp [intOf]; omega
        · obtain rfl : k = x.length := by omega
          go_wp2_with fail
          refine (c4 _ (S1.out.grown hgr) (S2.out.grown hgr)).mono ?_
          rintro e w5 ⟨rfl, g5⟩
          clear c4
          replace hgr := grownBy_trans hgr g5
          go_wp2_with fail
          refine (c3 _ (S1.out.grown hgr) (S2.out.grown hgr)).mono ?_
          rintro e w6 ⟨rfl, g6⟩
          clear c3
          replace hgr := grownBy_trans hgr g6
          go_wp2_with fail
          go_ret
          exact ⟨rfl, below_of (grownBy_trans G.out hgr)⟩

end Go.Proofs.Ytbalikemmilnaaa
