/-
  The walks of the laws FnFarOf and FnAlikeOf, out of what the functions answer.
-/
import Derived.Test.YtbalikemmilnaaaRC
import Derived.Test.YtbalikemmilnaaaRDraw2
namespace Go.Proofs.Ytbalikemmilnaaa
open Go.RowKit

theorem not_vok {n a : Int} (h : vokB n a = true) : vokB n (notW n a) = true := by
  have := vokB_of h
  rw [notW_t h]
  exact vokB_t (by omega)
/-- What one round of the law finds. -/
theorem far_round {n a b c : Int} (h : twoB n a b = true) (hc : 0 ≤ c ∧ c ≤ n) : ∃ G1 G2 F1 F2 G3 P1 P2 G4 T1 T2 G5 : Int, farW n a c = G1 ∧ farW n c b = G2 ∧ folW n a c = F1 ∧ folW n b c = F2 ∧ farW n F1 F2 = G3 ∧ plusW n a c = P1 ∧ plusW n b c = P2 ∧ farW n P1 P2 = G4 ∧ timesW n c a = T1 ∧ timesW n c b = T2 ∧ farW n T1 T2 = G5 ∧
    (0 ≤ G1 ∧ G1 ≤ 6 ∧ 0 ≤ G2 ∧ G2 ≤ 6 ∧ gap a b ≤ G1 + G2 ∧ G3 ≤ gap a b ∧ G4 ≤ gap a b ∧ G5 ≤ gap a b) := by
  obtain ⟨va, vb, k1, k2, k3, k4, k5, k6⟩ := twoB_of h
  have vc : vokB n c = true := vokB_t (by omega)
  refine ⟨_, _, _, _, _, _, _, _, _, _, _, rfl, rfl, rfl, rfl, rfl, rfl, rfl, rfl, rfl, rfl, rfl, ?_⟩
  have e1 := gap_le (twoB_mk va vc)
  have e2 := gap_le (twoB_mk vc vb)
  have e3 := gap_pos a c
  have e4 := gap_pos c b
  have e5 := gap_over a b c
  have d1 : gap (folW n a c) (folW n b c) ≤ gap a b + gap c c := app_gap .fol va vc vb vc
  have d2 : gap (plusW n a c) (plusW n b c) ≤ gap a b + gap c c := app_gap .plus va vc vb vc
  have d3 : gap (timesW n c a) (timesW n c b) ≤ gap c c + gap a b := app_gap .times vc va vc vb
  rw [gap_self] at d1 d2 d3
  have m1 : farW n (folW n a c) (folW n b c) = _ := farW_t (twoB_mk (app_ok .fol va vc) (app_ok .fol vb vc))
  have m2 : farW n (plusW n a c) (plusW n b c) = _ := farW_t (twoB_mk (app_ok .plus va vc) (app_ok .plus vb vc))
  have m3 : farW n (timesW n c a) (timesW n c b) = _ := farW_t (twoB_mk (app_ok .times vc va) (app_ok .times vc vb))
  rw [farW_t (twoB_mk va vc), farW_t (twoB_mk vc vb), m1, m2, m3]
  refine ⟨e3, by omega, e4, by omega, e5, by omega, by omega, by omega⟩

def FvRel8 (n : Int) (w : World) (i : Value) (wr : World) : Prop := ∃ c : Int, 0 ≤ c ∧ c ≤ n + 1 ∧ i = .int .i64 c ∧ w.grownBy wr none

set_option maxRecDepth 100000 in
set_option maxHeartbeats 4000000 in
theorem FnFarOf_of (H : FarC) (a0 : Option Addr) (len0 cap0 : Nat) (z0 : List Int) (w : World) (w0 : IsRow .u8 w a0 len0 cap0 z0) :
    Calls Try.prog 3 #[.slice a0 len0 cap0] w fun e w' => e = .returned (.bool true) ∧ Below w.heap.size w w' := by
  by_cases hl : (1048576 : Int) < (len0 : Int)
  · clear w0
    go_enter Try.func3, Try.ntmps3
    go_wp2_with fail
    go_ret
    exact ⟨rfl, Below.refl _ _⟩
  · go_enter Try.func3, Try.ntmps3
    go_wp2_with fail
    refine (DrawFarOf_any _ _ _ _ _ w0).mono ?_
    rintro e w1 ⟨n, a, b, rfl, n1, n2, a1, a2, b1', b2', g1⟩
    clear w0
    cases h : twoB n a b
    · have c1 := far_v H n a b (farW_f h)
      have c2 : ∀ w, Calls Try.prog 17 #[.int .i64 n, .int .i64 a, .int .i64 b] w fun e w' => e = .returned (.int .i64 (-1)) ∧ w = w' := fun w => by rw [← farW_f h]; exact sfar_any n a b w
      clear h
      go_wp2_with fail
      refine (c1 _).mono ?_
      rintro e w2 ⟨rfl, g2⟩
      clear c1
      go_wp2_with fail
      refine (c2 _).mono ?_
      rintro e w3 ⟨rfl, rfl⟩
      clear c2
      go_wp2_with (go_at_call 18; refine (alive_any _).mono ?_; rintro e w' ⟨rfl, rfl⟩)
      go_ret
      exact ⟨rfl, below_of (grownBy_trans g1 g2)⟩
    · have c1 := far_v H n a b (farW_t h)
      have c2 : ∀ w, Calls Try.prog 17 #[.int .i64 n, .int .i64 a, .int .i64 b] w fun e w' => e = .returned (.int .i64 (gap a b)) ∧ w = w' := fun w => by rw [← farW_t h]; exact sfar_any n a b w
      obtain ⟨va, vb, k1, k2, k3, k4, k5, k6⟩ := twoB_of h
      have c4 := far_v H n b a (v := gap a b) (by rw [farW_t (twoB_mk vb va), gap_sym])
      have c5 := not_v n a (v := notW n a) rfl
      have c6 := not_v n b (v := notW n b) rfl
      have c7 := far_v H n (notW n a) (notW n b) (v := gap a b) (by rw [farW_t (twoB_mk (not_vok va) (not_vok vb)), not_gap va vb])
      have HR : Hid (∀ c, 0 ≤ c ∧ c ≤ n → _) := fun c hc => far_round (n := n) (a := a) (b := b) (c := c) h hc
      have x0 := gap_pos a b
      have x6 := gap_le h
      have hz : (gap a b == 0) = (a == b) := by
        cases e : (a == b)
        · rw [beq_eq_false_iff_ne] at e ⊢; exact fun q => e (gap_zero.1 q)
        · rw [beq_iff_eq] at e ⊢; exact gap_zero.2 e
      obtain ⟨Z, hZ⟩ : ∃ Z : Bool, Z = (a == b) := ⟨_, rfl⟩
      rw [← hZ] at hz
      have hZ2 := hZ.symm
      have hZZ : (Z == Z) = true := by simp
      clear h va vb hZ
      generalize notW n a = Na at *
      generalize notW n b = Nb at *
      generalize gap a b = X at *
      have hXX : (X == X) = true := by simp
      have hXn : (X != X) = false := by simp
      go_wp2_with fail
      refine (c1 _).mono ?_
      rintro e w2 ⟨rfl, g2⟩
      clear c1
      go_wp2_with fail
      refine (c2 _).mono ?_
      rintro e w3 ⟨rfl, rfl⟩
      clear c2
      go_wp2_with fail
      go_loopw [7] (fun i wr => FvRel8 n w i wr) (fun i _ => (n + 1 - intOf i).toNat)
      case atStart => exact ⟨0, by omega, by omega, rfl, grownBy_trans g1 g2⟩
      case round =>
        obtain ⟨c, q0, q1, rfl, hgr⟩ := hrel
        by_cases hlt : c ≤ n
        · obtain ⟨G1, G2, F1, F2, G3, P1, P2, G4, T1, T2, G5, r1, r2, r3, r4, r5, r6, r7, r8, r9, r10, r11, s1, s2, s3, s4, s5, s6, s7, s8⟩ := HR.out c ⟨q0, hlt⟩
          have b1 := far_v H n a c r1
          have b2 := far_v H n c b r2
          have f1 := fol_v n a c r3
          have f2 := fol_v n b c r4
          have b3 := far_v H n F1 F2 r5
          have p1 := plus_v n a c r6
          have p2 := plus_v n b c r7
          have b4 := far_v H n P1 P2 r8
          have t1 := times_v n c a r9
          have t2 := times_v n c b r10
          have b5 := far_v H n T1 T2 r11
          clear r1 r2 r3 r4 r5 r6 r7 r8 r9 r10 r11 c4 c5 c6 c7
          go_wp2_with fail
          refine (b1 _).mono ?_
          rintro e wrb1 ⟨rfl, grb1⟩
          clear b1
          go_wp2_with fail
          refine (b2 _).mono ?_
          rintro e wrb2 ⟨rfl, grb2⟩
          clear b2
          go_wp2_with fail
          refine (f1 _).mono ?_
          rintro e wrf1 ⟨rfl, grf1⟩
          clear f1
          go_wp2_with fail
          refine (f2 _).mono ?_
          rintro e wrf2 ⟨rfl, grf2⟩
          clear f2
          go_wp2_with fail
          refine (b3 _).mono ?_
          rintro e wrb3 ⟨rfl, grb3⟩
          clear b3
          go_wp2_with fail
          refine (p1 _).mono ?_
          rintro e wrp1 ⟨rfl, grp1⟩
          clear p1
          go_wp2_with fail
          refine (p2 _).mono ?_
          rintro e wrp2 ⟨rfl, grp2⟩
          clear p2
          go_wp2_with fail
          refine (b4 _).mono ?_
          rintro e wrb4 ⟨rfl, grb4⟩
          clear b4
          go_wp2_with fail
          refine (t1 _).mono ?_
          rintro e wrt1 ⟨rfl, grt1⟩
          clear t1
          go_wp2_with fail
          refine (t2 _).mono ?_
          rintro e wrt2 ⟨rfl, grt2⟩
          clear t2
          go_wp2_with fail
          refine (b5 _).mono ?_
          rintro e wrb5 ⟨rfl, grb5⟩
          clear b5
          go_wp2_with fail
          go_roundw
          case rel => exact ⟨c + 1, by omega, by omega, by go_num, grownBy_trans hgr (grownBy_trans grb1 (grownBy_trans grb2 (grownBy_trans grf1 (grownBy_trans grf2 (grownBy_trans grb3 (grownBy_trans grp1 (grownBy_trans grp2 (grownBy_trans grb4 (grownBy_trans grt1 (grownBy_trans grt2 grb5))))))))))⟩
          case measure => simp [intOf]; omega
        · obtain rfl : c = n + 1 := by omega
          go_wp2_with fail
          refine (c4 _).mono ?_
          rintro e w4 ⟨rfl, g4⟩
          clear c4
          go_wp2_with fail
          refine (c5 _).mono ?_
          rintro e w5 ⟨rfl, rfl⟩
          clear c5
          go_wp2_with fail
          refine (c6 _).mono ?_
          rintro e w6 ⟨rfl, rfl⟩
          clear c6
          go_wp2_with fail
          refine (c7 _).mono ?_
          rintro e w7 ⟨rfl, g7⟩
          clear c7
          go_wp2_with fail
          go_ret
          exact ⟨rfl, below_of (grownBy_trans hgr (grownBy_trans g4 g7))⟩

theorem alk_both {n a b : Int} (h : twoB n a b = true) : timesW n (folW n a b) (folW n b a) = n - gap a b ∧ lessW n (folW n a b) (folW n b a) = n - gap a b := by
  obtain ⟨va, vb, k1, k2, k3, k4, k5, k6⟩ := twoB_of h
  have h2 := twoB_mk (app_ok .fol va vb) (app_ok .fol vb va)
  simp only [Sg.app] at h2
  unfold timesW lessW
  rw [h2]
  unfold folW
  rw [h, twoB_mk vb va]
  unfold gap
  simp only [if_true]
  constructor <;> (repeat' split) <;> omega
theorem alk_round {n a b c : Int} (h : twoB n a b = true) (hc : 0 ≤ c ∧ c ≤ n) : ∃ A1 A2 T1 : Int, alkW n a c = A1 ∧ alkW n c b = A2 ∧ timesW n A1 A2 = T1 ∧ T1 ≤ n - gap a b := by
  obtain ⟨va, vb, k1, k2, k3, k4, k5, k6⟩ := twoB_of h
  have vc : vokB n c = true := vokB_t (by omega)
  refine ⟨_, _, _, rfl, rfl, rfl, ?_⟩
  have e1 := gap_le (twoB_mk va vc)
  have e2 := gap_le (twoB_mk vc vb)
  have e3 := gap_pos a c
  have e4 := gap_pos c b
  have e5 := gap_over a b c
  rw [alkW_t (twoB_mk va vc), alkW_t (twoB_mk vc vb)]
  have hh : twoB n (n - gap a c) (n - gap c b) = true := twoB_mk (vokB_t (by omega)) (vokB_t (by omega))
  have e6 := gap_le h
  unfold timesW
  rw [hh]
  simp only [if_true]
  split <;> omega

set_option maxRecDepth 100000 in
set_option maxHeartbeats 4000000 in
theorem FnAlikeOf_of (H : AlkC) (a0 : Option Addr) (len0 cap0 : Nat) (z0 : List Int) (w : World) (w0 : IsRow .u8 w a0 len0 cap0 z0) :
    Calls Try.prog 4 #[.slice a0 len0 cap0] w fun e w' => e = .returned (.bool true) ∧ Below w.heap.size w w' := by
  by_cases hl : (1048576 : Int) < (len0 : Int)
  · clear w0
    go_enter Try.func4, Try.ntmps4
    go_wp2_with fail
    go_ret
    exact ⟨rfl, Below.refl _ _⟩
  · go_enter Try.func4, Try.ntmps4
    go_wp2_with fail
    refine (DrawAlikeOf_any _ _ _ _ _ w0).mono ?_
    rintro e w1 ⟨n, a, b, rfl, n1, n2, a1, a2, b1', b2', g1⟩
    clear w0
    cases h : twoB n a b
    · have c1 := alk_v H n a b (alkW_f h)
      have c2 : ∀ w, Calls Try.prog 25 #[.int .i64 n, .int .i64 a, .int .i64 b] w fun e w' => e = .returned (.int .i64 (-1)) ∧ w = w' := fun w => by rw [← alkW_f h]; exact salk_any n a b w
      clear h
      go_wp2_with fail
      refine (c1 _).mono ?_
      rintro e w2 ⟨rfl, g2⟩
      clear c1
      go_wp2_with fail
      refine (c2 _).mono ?_
      rintro e w3 ⟨rfl, rfl⟩
      clear c2
      go_wp2_with (go_at_call 18; refine (alive_any _).mono ?_; rintro e w' ⟨rfl, rfl⟩)
      go_ret
      exact ⟨rfl, below_of (grownBy_trans g1 g2)⟩
    · have c1 := alk_v H n a b (alkW_t h)
      have c2 : ∀ w, Calls Try.prog 25 #[.int .i64 n, .int .i64 a, .int .i64 b] w fun e w' => e = .returned (.int .i64 (n - gap a b)) ∧ w = w' := fun w => by rw [← alkW_t h]; exact salk_any n a b w
      obtain ⟨va, vb, k1, k2, k3, k4, k5, k6⟩ := twoB_of h
      obtain ⟨P, Q, hP, hQ, hT, hL⟩ : ∃ P Q : Int, folW n a b = P ∧ folW n b a = Q ∧ timesW n P Q = n - gap a b ∧ lessW n P Q = n - gap a b := ⟨_, _, rfl, rfl, alk_both h⟩
      have c3 := fol_v n a b hP
      have c4 := fol_v n b a hQ
      have c5 := times_v n P Q hT
      have c6 := less_v n P Q hL
      have c7 := alk_v H n b a (v := n - gap a b) (by rw [alkW_t (twoB_mk vb va), gap_sym])
      have HR : Hid (∀ c, 0 ≤ c ∧ c ≤ n → _) := fun c hc => alk_round (n := n) (a := a) (b := b) (c := c) h hc
      have x6 : 0 ≤ n - gap a b := by have := gap_le h; omega
      clear h va vb hP hQ hT hL
      generalize n - gap a b = X at *
      have hXX : (X == X) = true := by simp
      have hXn : (X != X) = false := by simp
      go_wp2_with fail
      refine (c1 _).mono ?_
      rintro e w2 ⟨rfl, g2⟩
      clear c1
      go_wp2_with fail
      refine (c2 _).mono ?_
      rintro e w3 ⟨rfl, rfl⟩
      clear c2
      go_wp2_with fail
      refine (c3 _).mono ?_
      rintro e w4 ⟨rfl, g4⟩
      clear c3
      go_wp2_with fail
      refine (c4 _).mono ?_
      rintro e w5 ⟨rfl, g5⟩
      clear c4
      go_wp2_with fail
      go_loopw [9] (fun i wr => FvRel8 n w i wr) (fun i _ => (n + 1 - intOf i).toNat)
      case atStart => exact ⟨0, by omega, by omega, rfl, grownBy_trans g1 (grownBy_trans g2 (grownBy_trans g4 g5))⟩
      case round =>
        obtain ⟨c, q0, q1, rfl, hgr⟩ := hrel
        by_cases hlt : c ≤ n
        · obtain ⟨A1, A2, T1, r1, r2, r3, r4⟩ := HR.out c ⟨q0, hlt⟩
          have b1 := alk_v H n a c r1
          have b2 := alk_v H n c b r2
          have b3 := times_v n A1 A2 r3
          have d0 : decide (X < T1) = false := decide_eq_false (by omega)
          clear r1 r2 r3 c5 c6 c7
          go_wp2_with fail
          refine (b1 _).mono ?_
          rintro e wrb1 ⟨rfl, grb1⟩
          clear b1
          go_wp2_with fail
          refine (b2 _).mono ?_
          rintro e wrb2 ⟨rfl, grb2⟩
          clear b2
          go_wp2_with fail
          refine (b3 _).mono ?_
          rintro e wrb3 ⟨rfl, grb3⟩
          clear b3
          go_wp2_with fail
          go_roundw
          case rel => exact ⟨c + 1, by omega, by omega, by go_num, grownBy_trans hgr (grownBy_trans grb1 (grownBy_trans grb2 grb3))⟩
          case measure => simp [intOf]; omega
        · obtain rfl : c = n + 1 := by omega
          go_wp2_with fail
          refine (c5 _).mono ?_
          rintro e w6 ⟨rfl, g6⟩
          clear c5
          go_wp2_with fail
          refine (c6 _).mono ?_
          rintro e w7 ⟨rfl, g7⟩
          clear c6
          go_wp2_with fail
          refine (c7 _).mono ?_
          rintro e w8 ⟨rfl, g8⟩
          clear c7
          go_wp2_with fail
          go_ret
          exact ⟨rfl, below_of (grownBy_trans hgr (grownBy_trans g6 (grownBy_trans g7 g8)))⟩

end Go.Proofs.Ytbalikemmilnaaa
