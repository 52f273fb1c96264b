/-
  The walk of the law FnRowSaid, out of what the functions answer.
-/
import Derived.Test.YtoaknplfphoiaaaDoorMC
import Derived.Test.YtoaknplfphoiaaaDoorADraw
namespace Go.Proofs.YtoaknplfphoiaaaDoor
open Go.RowKit

theorem said_say {N : Nat} (hN : 1 ≤ N ∧ N ≤ 6) (t : Tr) : sayB N (saidTo N t (N + 1)) = true := by
  refine sayB_mk (by omega) (by rw [saidTo_len]; omega) fun v hv => ?_
  rw [saidTo_len] at hv
  unfold sayAt
  rw [saidTo_at N t hv]
  have h1 := vokB_of (val_ok (thrB_mk (vokB_t (by omega)) (vokB_t (by omega)) (vokB_t (by omega)) : thrB (N : Int) v v v = true) t)
  have h2 := Int.emod_eq_zero_of_dvd (val_dvd hN (v := v) (by omega) t)
  rw [inB_t (by omega)]
  simp only [Int.toNat_natCast, Bool.true_and, beq_iff_eq]
  exact h2
theorem said_end {N : Nat} (hN : 1 ≤ N ∧ N ≤ 6) (t : Tr) : t.val N (0 : Nat) (0 : Nat) (0 : Nat) % (N : Int) = 0 ∧ t.val N N N N % (N : Int) = 0 := by
  have h1 := Int.emod_eq_zero_of_dvd (val_dvd hN (v := 0) (by omega) t)
  have h2 := Int.emod_eq_zero_of_dvd (val_dvd hN (v := N) (by omega) t)
  rw [Nat.gcd_zero_left] at h1
  rw [Nat.gcd_self] at h2
  exact ⟨h1, h2⟩
theorem DrawRowSaid_any (a : Option Addr) (len cap : Nat) (zs : List Int) (w : World) (h : IsRow .u8 w a len cap zs) :
    Calls Tryd.prog 9 #[.slice a len cap] w (LaPost w) := by
  go_enter Tryd.func9, Tryd.ntmps9
  go_wp2_with fail
  refine (DrawLeastAt_any a len cap zs _ h).mono ?_
  rintro e w1 ⟨n, s, rfl, h1, h2, h3, hg⟩
  clear h
  go_wp2_with fail
  go_ret2
  exact ⟨n, s, rfl, h1, h2, h3, hg⟩

set_option maxRecDepth 100000 in
set_option maxHeartbeats 4000000 in
theorem FnRowSaid_of (H : SaidC) (HS : SayC) (a0 : Option Addr) (len0 cap0 : Nat) (z0 : List Int) (w : World) (w0 : IsRow .u8 w a0 len0 cap0 z0) (hT : TzAt w) :
    Calls Tryd.prog 3 #[.slice a0 len0 cap0] w fun e w' => e = .returned (.bool true) ∧ Below w.heap.size w w' := by
  have HT := Lib.hid hT
  clear hT
  by_cases hl : (1048576 : Int) < (len0 : Int)
  · clear w0
    go_enter Tryd.func3, Tryd.ntmps3
    go_wp2_with fail
    go_ret
    exact ⟨rfl, Below.refl _ _⟩
  · go_enter Tryd.func3, Tryd.ntmps3
    go_wp2_with fail
    refine (DrawRowSaid_any _ _ _ _ _ w0).mono ?_
    rintro e w1 ⟨n, s, rfl, s60, n1, n2, g1⟩
    clear w0
    by_cases hne : saidL n (bl s) = []
    · have c1 := said_v H n s hne
      have c2 := ssaid_v n s hne
      clear hne
      go_wp2_with fail
      refine (c1 _).mono ?_
      rintro e w2 ⟨a, ca, rfl, o2, g2⟩
      clear c1
      go_wp2_with fail
      refine (c2 _).mono ?_
      rintro e w3 ⟨b, cb, rfl, o3, g3⟩
      clear c2
      have ce := sameInts_any a b ca cb [] [] w3 ((o2.at (by simp)).grown g3) (o3.at (by simp))
      rw [sameL_self] at ce
      have G := Lib.hid (grownBy_trans g1 (grownBy_trans g2 g3))
      clear o2 o3 g1 g2 g3
      go_wp2_with fail
      refine ce.mono ?_
      rintro e w4 ⟨rfl, g4⟩
      clear ce
      go_wp2_with (go_at_call 13; refine (alive_any _).mono ?_; rintro e w' ⟨rfl, rfl⟩)
      go_ret
      exact ⟨rfl, below_of (grownBy_trans G.out g4)⟩
    · obtain ⟨N, t, rfl, hN, ho⟩ : ∃ (N : Nat) (t : Tr), n = N ∧ (1 ≤ N ∧ N ≤ 6) ∧ fOf (bl s) = some t := by
        cases hi : inB n 1 6
        · exact absurd (saidL_o hi) hne
        · cases ho : fOf (bl s) with
          | none => exact absurd (saidL_n ho) hne
          | some t =>
            obtain ⟨N, rfl, hN⟩ := nat_of hi
            exact ⟨N, t, rfl, hN, rfl⟩
      have c1 := said_v H N s (saidL_t ho (inB_nat hN))
      have c2 := ssaid_v N s (saidL_t ho (inB_nat hN))
      have hsay := Lib.hid (said_say hN t)
      obtain ⟨e0, eN⟩ := said_end hN t
      have hlen := saidTo_len N t (N + 1)
      have h0 := Lib.hid (saidTo_at N t (k := N + 1) (v := 0) (by omega))
      have hNN := Lib.hid (saidTo_at N t (k := N + 1) (v := N) (by omega))
      clear ho hne
      generalize t.val N (0 : Nat) (0 : Nat) (0 : Nat) = V0 at *
      generalize t.val N N N N = VN at *
      generalize saidTo N t (N + 1) = xs at *
      have Hlen := Lib.hid hlen
      clear hlen
      go_wp2_with fail
      refine (c1 _).mono ?_
      rintro e w2 ⟨a, ca, rfl, o2, g2⟩
      clear c1
      have O2 := Lib.hid (o2.at (by have := Hlen.out; unfold maxLen; omega))
      clear o2
      go_wp2_with fail
      refine (c2 _).mono ?_
      rintro e w3 ⟨b, cb, rfl, o3, g3⟩
      clear c2
      have ce := sameInts_any a b ca cb xs xs w3 (O2.out.grown g3) (o3.at (by have := Hlen.out; unfold maxLen; omega))
      rw [sameL_self] at ce
      have G := Lib.hid (grownBy_trans g1 (grownBy_trans g2 g3))
      have O3 := Lib.hid (O2.out.grown g3)
      clear o3 g1 g2 g3 O2
      go_wp2_with fail
      refine ce.mono ?_
      rintro e w4 ⟨rfl, g4⟩
      clear ce
      have cs := say_v HS N a ca xs hsay.out w4 (HT.out.grown (grownBy_trans G.out g4)) (O3.out.grown g4)
      have hl1 : ((xs.length : Int) == (N : Int) + 1) = true := by have := Hlen.out; simp; omega
      have hl0 : ((xs.length : Int) == 0) = false := by have := Hlen.out; rw [beq_eq_false_iff_ne]; omega
      go_wp2_with fail
      refine cs.mono ?_
      rintro e w5 ⟨rfl, g5⟩
      clear cs
      rcases (O3.out.grown (grownBy_trans g4 g5)).2 with hn | ⟨bx, ox, rfl, hbx, hcx⟩
      · have := Hlen.out; rw [hn] at this; simp at this
      have k0 := hcx 0 (by have := Hlen.out; omega)
      have kN := hcx N (by have := Hlen.out; omega)
      rw [h0.out] at k0
      rw [hNN.out] at kN
      rw [Nat.add_zero] at k0
      have i1 : (0 : Int) < (xs.length : Int) := by have := Hlen.out; omega
      have i2 : (N : Int) < (xs.length : Int) := by have := Hlen.out; omega
      have i3 : ¬ ((N : Int) = 0) := by omega
      have j0 : (V0.tmod (N : Int) == 0) = true := by rw [beq_iff_eq]; exact Int.tmod_eq_zero_of_dvd (Int.dvd_of_emod_eq_zero e0)
      have jN : (VN.tmod (N : Int) == 0) = true := by rw [beq_iff_eq]; exact Int.tmod_eq_zero_of_dvd (Int.dvd_of_emod_eq_zero eN)
      clear hcx hbx
      go_wp2_with fail
      go_ret
      exact ⟨rfl, below_of (grownBy_trans G.out (grownBy_trans g4 g5))⟩

end Go.Proofs.YtoaknplfphoiaaaDoor
