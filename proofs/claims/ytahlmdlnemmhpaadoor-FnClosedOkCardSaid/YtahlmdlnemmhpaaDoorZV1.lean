/-
  The walk of the law FnClosedOk. The table of math/bits lies as it is laid.
-/
import Derived.Test.YtahlmdlnemmhpaaDoorZDraw2
import Derived.Outline
namespace Go.Proofs.YtahlmdlnemmhpaaDoor
open Go.RowKit

theorem clos_all {N S : Nat} (hN : 1 ≤ N ∧ N ≤ 6) (hS : S < 2 ^ (N + 1)) (h : closN N S = true) :
    bit S N = true ∧ ∀ a b, a < N + 1 → b < N + 1 → bit S a = true → bit S b = true → bit S (N - a) = true ∧ bit S (min N (a + b)) = true ∧ bit S (a + b - N) = true ∧ bit S (min a b) = true ∧ bit S (max a b) = true := by
  have k := tab_of clos_signs hN hS
  rw [h] at k
  simp only [Bool.not_true, Bool.false_or, Bool.and_eq_true] at k
  refine ⟨k.1, fun a b ha hb h1 h2 => ?_⟩
  have q := upB_of (upB_of k.2 ha) hb
  unfold signsB at q
  rw [h1, h2] at q
  simp only [Bool.and_self, Bool.not_true, Bool.false_or, Bool.and_eq_true] at q
  exact ⟨q.1.1.1.1, q.1.1.1.2, q.1.1.2, q.1.2, q.2⟩

/-- A sign's answer that is in the set. -/
def InS (S : Nat) (f : Nat) (args : Array Value) : Prop := ∃ x : Nat, x ≤ 6 ∧ bit S x = true ∧ ∀ w : World, Calls Tryd.prog f args w fun e w' => e = .returned (.int .i64 (x : Int)) ∧ w = w'

theorem ins_all {N S a b : Nat} (hN : 1 ≤ N ∧ N ≤ 6) (ha : a ≤ N) (hb : b ≤ N) (h : bit S (N - a) = true ∧ bit S (min N (a + b)) = true ∧ bit S (a + b - N) = true ∧ bit S (min a b) = true ∧ bit S (max a b) = true) :
    InS S 16 #[.int .i64 N, .int .i64 a] ∧ InS S 17 #[.int .i64 N, .int .i64 a, .int .i64 b] ∧ InS S 18 #[.int .i64 N, .int .i64 a, .int .i64 b] ∧ InS S 19 #[.int .i64 N, .int .i64 a, .int .i64 b] ∧ InS S 20 #[.int .i64 N, .int .i64 a, .int .i64 b] := by
  have ht : twoB (N : Int) (a : Int) (b : Int) = true := twoB_t (by omega)
  refine ⟨⟨N - a, by omega, h.1, fun w => ?_⟩, ⟨min N (a + b), by omega, h.2.1, fun w => ?_⟩, ⟨a + b - N, by omega, h.2.2.1, fun w => ?_⟩, ⟨min a b, by omega, h.2.2.2.1, fun w => ?_⟩, ⟨max a b, by omega, h.2.2.2.2, fun w => ?_⟩⟩
  · have := snot_any (N : Int) (a : Int) w
    rw [notW_t (vokB_t (by omega)), show (N : Int) - (a : Int) = ((N - a : Nat) : Int) by omega] at this
    exact this
  · have := splus_any (N : Int) (a : Int) (b : Int) w
    rw [show plusW (N : Int) (a : Int) (b : Int) = ((min N (a + b) : Nat) : Int) by
      by_cases hc : (a : Int) + (b : Int) ≤ (N : Int)
      · rw [plusW_t ht hc]; omega
      · rw [plusW_e ht hc]; omega] at this
    exact this
  · have := stimes_any (N : Int) (a : Int) (b : Int) w
    rw [show timesW (N : Int) (a : Int) (b : Int) = ((a + b - N : Nat) : Int) by
      by_cases hc : 0 ≤ (a : Int) + (b : Int) - (N : Int)
      · rw [timesW_t ht hc]; omega
      · rw [timesW_e ht hc]; omega] at this
    exact this
  · have := sless_any (N : Int) (a : Int) (b : Int) w
    rw [show lessW (N : Int) (a : Int) (b : Int) = ((min a b : Nat) : Int) by
      by_cases hc : (a : Int) ≤ (b : Int)
      · rw [lessW_t ht hc]; omega
      · rw [lessW_e ht hc]; omega] at this
    exact this
  · have := sgreat_any (N : Int) (a : Int) (b : Int) w
    rw [show greatW (N : Int) (a : Int) (b : Int) = ((max a b : Nat) : Int) by
      by_cases hc : (a : Int) ≤ (b : Int)
      · rw [greatW_t ht hc]; omega
      · rw [greatW_e ht hc]; omega] at this
    exact this

set_option maxRecDepth 100000 in
set_option maxHeartbeats 2000000 in
theorem FnClosedOk_walk (a0 : Option Addr) (len0 cap0 : Nat) (z0 : List Int) (w : World) (w0 : IsRow .u8 w a0 len0 cap0 z0) (hT : TzAt w) :
    Calls Tryd.prog 3 #[.slice a0 len0 cap0] w fun e w' => e = .returned (.bool true) ∧ Below w.heap.size w w' := by
  by_cases hl : (1048576 : Int) < (len0 : Int)
  · clear w0
    go_enter Tryd.func3, Tryd.ntmps3
    go_wp2_with fail
    go_ret
    exact ⟨rfl, Below.refl _ _⟩
  · go_enter Tryd.func3, Tryd.ntmps3
    go_wp2_with fail
    refine (DrawClosedOk_any _ _ _ _ _ w0).mono ?_
    rintro e w1 ⟨n, s, rfl, hn1, hn2, hs1, hs2, g1⟩
    clear w0
    have ci := closed_any n s w1 (hT.grown g1)
    have cs := fun w => sclosed_any n s w
    have G1 := Lib.hid g1
    clear g1
    cases hc : closI n s
    · rw [hc] at ci cs
      clear hc hT
      go_wp2_with fail
      refine ci.mono ?_
      rintro e w2 ⟨rfl, g2⟩
      go_wp2_with fail
      refine (cs _).mono ?_
      rintro e w3 ⟨rfl, rfl⟩
      go_wp2_with fail
      refine (alive_any _).mono ?_
      rintro e w4 ⟨rfl, rfl⟩
      go_wp2_with fail
      go_ret
      exact ⟨rfl, below_of (grownBy_trans G1.out g2)⟩
    · have ho : okS n s = true := by
        cases h : okS n s
        · rw [closI_f h] at hc; cases hc
        · rfl
      obtain ⟨N, S, rfl, rfl, h1, h6, hS⟩ := okS_of ho
      have hcn : closN N S = true := by rw [closN_nat ⟨h1, h6⟩ hS, ← closI_nat ⟨h1, h6⟩ hS]; exact hc
      obtain ⟨hbN, hall⟩ := clos_all ⟨h1, h6⟩ hS hcn
      obtain ⟨tN1, tN2⟩ := shr_t hbN
      have hS7 : S < 128 := by have := pow_le7 h6; omega
      rw [hc] at ci cs
      clear hc hT hS hcn ho hbN
      have Hall := Lib.hid hall
      clear hall
      go_wp2_with fail
      refine ci.mono ?_
      rintro e w2 ⟨rfl, g2⟩
      go_wp2_with fail
      refine (cs _).mono ?_
      rintro e w3 ⟨rfl, rfl⟩
      clear ci cs
      have G2 := Lib.hid g2
      clear g2
      go_wp2_with fail
      go_loop [6] (fun i => ∃ a : Nat, a ≤ N + 1 ∧ i = .int .i64 a) (fun i => N + 1 - (intOf i).toNat)
      case atStart => exact ⟨0, by omega, rfl⟩
      case round =>
        obtain ⟨a, ha, rfl⟩ := hrel
        by_cases hlt : a < N + 1
        · go_wp2_with fail
          go_loop [7] (fun j => ∃ b : Nat, b ≤ N + 1 ∧ j = .int .i64 b) (fun j => N + 1 - (intOf j).toNat)
          case atStart => exact ⟨0, by omega, rfl⟩
          case round =>
            obtain ⟨b, hb, rfl⟩ := hrel
            by_cases hltb : b < N + 1
            · cases hba : bit S a
              · obtain ⟨t1, t2⟩ := shr_f hba
                clear hba
                go_wp2_with fail
                go_round
                case rel => exact ⟨b + 1, by omega, by go_num⟩
                case measure => simp [intOf]; omega
              · obtain ⟨t1, t2⟩ := shr_t hba
                cases hbb : bit S b
                · obtain ⟨u1, u2⟩ := shr_f hbb
                  clear hba hbb
                  go_wp2_with fail
                  go_round
                  case rel => exact ⟨b + 1, by omega, by go_num⟩
                  case measure => simp [intOf]; omega
                · obtain ⟨u1, u2⟩ := shr_t hbb
                  obtain ⟨⟨x1, hx1, y1, c1⟩, ⟨x2, hx2, y2, c2⟩, ⟨x3, hx3, y3, c3⟩, ⟨x4, hx4, y4, c4⟩, ⟨x5, hx5, y5, c5⟩⟩ := ins_all (S := S) ⟨h1, h6⟩ (show a ≤ N by omega) (show b ≤ N by omega) (Hall.out a b hlt hltb hba hbb)
                  have p1 := (shr_t y1).2
                  have p2 := (shr_t y2).2
                  have p3 := (shr_t y3).2
                  have p4 := (shr_t y4).2
                  have p5 := (shr_t y5).2
                  clear hba hbb y1 y2 y3 y4 y5
                  go_wp2_with (first
                    | (go_at_call 16; refine (c1 _).mono ?_; rintro e w' ⟨rfl, rfl⟩)
                    | (go_at_call 17; refine (c2 _).mono ?_; rintro e w' ⟨rfl, rfl⟩)
                    | (go_at_call 18; refine (c3 _).mono ?_; rintro e w' ⟨rfl, rfl⟩)
                    | (go_at_call 19; refine (c4 _).mono ?_; rintro e w' ⟨rfl, rfl⟩)
                    | (go_at_call 20; refine (c5 _).mono ?_; rintro e w' ⟨rfl, rfl⟩))
                  go_round
                  case rel => exact ⟨b + 1, by omega, by go_num⟩
                  case measure => simp [intOf]; omega
            · obtain rfl : b = N + 1 := by omega
              go_wp2_with fail
              go_round
              case rel => exact ⟨a + 1, by omega, by go_num⟩
              case measure => simp [intOf]; omega
        · obtain rfl : a = N + 1 := by omega
          go_wp2_with fail
          refine (alive_any _).mono ?_
          rintro e w4 ⟨rfl, rfl⟩
          go_wp2_with fail
          go_ret
          exact ⟨rfl, below_of (grownBy_trans G1.out G2.out)⟩

end Go.Proofs.YtahlmdlnemmhpaaDoor
