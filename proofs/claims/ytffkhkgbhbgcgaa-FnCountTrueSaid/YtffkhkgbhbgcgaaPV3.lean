/-
  The walk of the law FnCountTrue.
-/
import Derived.Test.YtffkhkgbhbgcgaaPV1
namespace Go.Proofs.Ytffkhkgbhbgcgaa
open Go.RowKit

theorem f_zero : fOf (bl ⟨#[48]⟩) = some (.tru false) := rfl
theorem cnt_all {N : Nat} (hN : 1 ≤ N ∧ N ≤ 6) : cntI N (([] : List ByteArray).map bl) = (cub N : Int) := by
  rw [cntI_t (n := N) nil_prem (inB_nat hN), cntK_nil]
theorem cnt_key (C : Nat) (v : Bool) (hv : v = (C == 0)) : (((C : Int) == 0) == v) = true := by
  rw [hv]
  by_cases h : C = 0
  · rw [h]; rfl
  · rw [show (C == 0) = false by simpa using h, show ((C : Int) == 0) = false by simp; omega]; rfl
theorem cnt_neg {n : Int} {ls : List (List UInt8)} (h : cntI n ls < 0) : cntI n ls = -1 := by
  cases ho : prOf ls with
  | none => exact cntI_p ho
  | some ts =>
    cases hi : inB n 1 6
    · exact cntI_o hi
    · obtain ⟨N, rfl, hN⟩ := nat_of hi
      rw [cntI_t ho hi] at h
      omega
theorem cnt_pos {n : Int} {ls : List (List UInt8)} (h : ¬ cntI n ls < 0) : ∃ (N : Nat) (ts : List Tr), n = N ∧ (1 ≤ N ∧ N ≤ 6) ∧ prOf ls = some ts ∧ cntI n ls = (cntK N ts (cub N) : Int) := by
  cases ho : prOf ls with
  | none => rw [cntI_p ho] at h; omega
  | some ts =>
    cases hi : inB n 1 6
    · rw [cntI_o hi] at h; omega
    · obtain ⟨N, rfl, hN⟩ := nat_of hi
      exact ⟨N, ts, rfl, hN, rfl, cntI_t ho hi⟩
theorem fol_cnt {N : Nat} (hN : 1 ≤ N ∧ N ≤ 6) {ls : List (List UInt8)} {ts : List Tr} (ho : prOf ls = some ts) : folI N ls (bl ⟨#[48]⟩) = (cntK N ts (cub N) == 0) := by
  rw [folI_t ho f_zero (inB_nat hN), cnt_zero hN.1]
theorem cnt_tail {N : Nat} (hN : 1 ≤ N ∧ N ≤ 6) {l : List UInt8} {ls : List (List UInt8)} {ts : List Tr} (ho : prOf (l :: ls) = some ts) : ∃ q : Nat, cntI N ls = (q : Int) ∧ cntK N ts (cub N) ≤ q ∧ q ≤ 343 := by
  obtain ⟨t, us, _, h2, rfl⟩ := prOf_tail ho
  exact ⟨_, cntI_t h2 (inB_nat hN), cntK_tail N t us (cub N), Nat.le_trans (cntK_le N us (cub N)) (cub_le hN.2)⟩

set_option maxRecDepth 100000 in
set_option maxHeartbeats 4000000 in
theorem FnCountTrue_walk (a0 : Option Addr) (len0 cap0 : Nat) (z0 : List Int) (w : World) (w0 : IsRow .u8 w a0 len0 cap0 z0) :
    Calls Try.prog 6 #[.slice a0 len0 cap0] w fun e w' => e = .returned (.bool true) ∧ Below w.heap.size w w' := by
  by_cases hl : (1048576 : Int) < (len0 : Int)
  · clear w0
    go_enter Try.func6, Try.ntmps6
    go_wp2_with fail
    go_ret
    exact ⟨rfl, Below.refl _ _⟩
  · go_enter Try.func6, Try.ntmps6
    go_wp2_with fail
    refine (DrawCountTrue_any _ _ _ _ _ w0).mono ?_
    rintro e w1 ⟨n, ss, a, cap, rfl, n1, n2, h4, hcap, hsz, hS, g1⟩
    clear w0 hsz
    have HS := Lib.hid hS
    clear hS
    by_cases hneg : cntI n (ss.map bl) < 0
    · have c1 := cntr_is n a cap ss (cnt_neg hneg)
      have c2 := scount_is n a cap ss (cnt_neg hneg)
      clear hneg
      go_wp2_with fail
      refine (c1 _ HS.out).mono ?_
      rintro e w2 ⟨rfl, g2⟩
      clear c1
      go_wp2_with fail
      refine (c2 _ (HS.out.grown g2)).mono ?_
      rintro e w3 ⟨rfl, g3⟩
      clear c2
      go_wp2_with (go_at_call 18; refine (alive_any _).mono ?_; rintro e w' ⟨rfl, rfl⟩)
      go_ret
      exact ⟨rfl, below_of (grownBy_trans g1 (grownBy_trans g2 g3))⟩
    · obtain ⟨N, ts, rfl, hN, ho, hv⟩ := cnt_pos hneg
      have c1 := cntr_is N a cap ss hv
      have c2 := scount_is N a cap ss hv
      have c3 := fun (w : World) (b : Nat) => cntr_is N (some ⟨b, 0, none⟩) 0 [] (cnt_all hN) w (StrsAt.nil _ _)
      have c4 := ff_is N a cap ss ⟨#[48]⟩ (fol_cnt hN ho)
      have hCl := cntK_le N ts (cub N)
      have hcub := cub_le hN.2
      obtain ⟨M, m1, m2⟩ := cub_q hN
      have HO := Lib.hid ho
      have HN := Lib.hid hN
      cases ss with
      | nil =>
        clear hneg hv ho
        generalize cntK N ts (cub N) = C at *
        have hd : decide ((C : Int) < 0) = false := decide_eq_false (by omega)
        obtain ⟨F, hF⟩ : ∃ F : Bool, F = (C == 0) := ⟨_, rfl⟩
        rw [← hF] at c4
        have k1 := cnt_key C F hF
        clear hF
        go_wp2_with fail
        refine (c1 _ HS.out).mono ?_
        rintro e w2 ⟨rfl, g2⟩
        clear c1
        go_wp2_with fail
        refine (c2 _ (HS.out.grown g2)).mono ?_
        rintro e w3 ⟨rfl, g3⟩
        clear c2
        go_wp2_with fail
        refine (c3 _ _).mono ?_
        rintro e w4 ⟨rfl, g4⟩
        clear c3
        go_wp2_with fail
        refine (c4 _ (StrsAt.nil _ _)).mono ?_
        rintro e w5 ⟨rfl, g5⟩
        clear c4
        go_wp2_with fail
        go_ret
        exact ⟨rfl, below_of (grownBy_trans g1 (grownBy_trans (grownBy_trans g2 g3) (grownBy_trans (grownBy_trans (World.grownBy_alloc _ _ none) g4) g5)))⟩
      | cons s ss =>
        obtain ⟨b, off, rfl⟩ := HS.out.cons
        obtain ⟨q, hq, hq1, hq2⟩ := cnt_tail hN HO.out
        have c5 := cntr_is N (some ⟨b, off + 1, none⟩) (cap - 1) ss hq
        have c6 := cntr_is N (some ⟨b, off, none⟩) 0 [] (cnt_all hN)
        have Hq := Lib.hid hq
        clear hneg hv ho hq
        simp only [List.length_cons] at h4 hcap c1 c2 c4
        generalize cntK N ts (cub N) = C at *
        have hd : decide ((C : Int) < 0) = false := decide_eq_false (by omega)
        have hqc : decide ((C : Int) ≤ (q : Int)) = true := decide_eq_true (by omega)
        obtain ⟨F, hF⟩ : ∃ F : Bool, F = (C == 0) := ⟨_, rfl⟩
        rw [← hF] at c4
        have k1 := cnt_key C F hF
        clear hF
        have hqd : decide ((C : Int) ≤ (cub N : Int)) = true := decide_eq_true (by omega)
        go_wp2_with fail
        refine (c1 _ HS.out).mono ?_
        rintro e w2 ⟨rfl, g2⟩
        clear c1
        go_wp2_with fail
        refine (c2 _ (HS.out.grown g2)).mono ?_
        rintro e w3 ⟨rfl, g3⟩
        clear c2
        go_wp2_with fail
        refine (c3 _ _).mono ?_
        rintro e w4 ⟨rfl, g4⟩
        clear c3
        have gg4 := grownBy_trans (grownBy_trans g2 g3) (grownBy_trans (World.grownBy_alloc w3 (.cells #[] 9) none) g4)
        go_wp2_with fail
        refine (c4 _ (HS.out.grown gg4)).mono ?_
        rintro e w5 ⟨rfl, g5⟩
        clear c4
        have s5 := ((HS.out.grown gg4).grown g5).tail
        go_wp2_with fail
        · obtain rfl : ss = [] := List.length_eq_zero_iff.1 (by omega)
          refine (c6 _ (StrsAt.nil _ _)).mono ?_
          rintro e w6 ⟨rfl, g6⟩
          clear c6
          go_wp2_with fail
          go_ret
          exact ⟨rfl, below_of (grownBy_trans g1 (grownBy_trans gg4 (grownBy_trans g5 g6)))⟩
        · refine (c5 _ s5).mono ?_
          rintro e w6 ⟨rfl, g6⟩
          clear c5
          go_wp2_with fail
          go_ret
          exact ⟨rfl, below_of (grownBy_trans g1 (grownBy_trans gg4 (grownBy_trans g5 g6)))⟩

end Go.Proofs.Ytffkhkgbhbgcgaa
