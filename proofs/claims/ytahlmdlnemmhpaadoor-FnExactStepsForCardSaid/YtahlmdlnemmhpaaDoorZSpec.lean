/-
  What the model's ClosedOk answers. No condition.
-/
import Derived.Test.YtahlmdlnemmhpaaDoorZOk
namespace Go.Proofs.YtahlmdlnemmhpaaDoor
open Go.RowKit

theorem shr_bit (S v : Nat) : ((S : Int) / 2 ^ v).tmod 2 = ((S / 2 ^ v % 2 : Nat) : Int) := by
  have e : (S : Int) / 2 ^ v = ((S / 2 ^ v : Nat) : Int) := by rw [Int.natCast_ediv, Int.natCast_pow]; rfl
  rw [e]
  generalize S / 2 ^ v = q
  rw [Int.tmod_eq_emod_of_nonneg (by omega)]
  omega
theorem bit_cases (S v : Nat) : (bit S v = true ∧ S / 2 ^ v % 2 = 1) ∨ (bit S v = false ∧ S / 2 ^ v % 2 = 0) := by
  unfold bit
  rcases Nat.mod_two_eq_zero_or_one (S / 2 ^ v) with h | h
  · right; rw [h]; exact ⟨rfl, rfl⟩
  · left; rw [h]; exact ⟨rfl, rfl⟩
theorem shr_t {S v : Nat} (h : bit S v = true) : (((S : Int) / 2 ^ v).tmod 2 == 1) = true ∧ (((S : Int) / 2 ^ v).tmod 2 == 0) = false := by
  rcases bit_cases S v with ⟨_, e⟩ | ⟨h', _⟩
  · rw [shr_bit, e]; exact ⟨rfl, rfl⟩
  · rw [h] at h'; cases h'
theorem shr_f {S v : Nat} (h : bit S v = false) : (((S : Int) / 2 ^ v).tmod 2 == 1) = false ∧ (((S : Int) / 2 ^ v).tmod 2 == 0) = true := by
  rcases bit_cases S v with ⟨h', _⟩ | ⟨_, e⟩
  · rw [h] at h'; cases h'
  · rw [shr_bit, e]; exact ⟨rfl, rfl⟩

/-- All pairs ahead of a place hold. -/
def upTo2 (N S a b : Nat) : Prop := (∀ x, x < a → ∀ y, y < N + 1 → folB N S x y = true) ∧ ∀ y, y < b → folB N S a y = true
theorem upTo2_next {N S a b : Nat} (h : upTo2 N S a b) (hb : folB N S a b = true) : upTo2 N S a (b + 1) := ⟨h.1, fun y hy => by
  by_cases e : y < b
  · exact h.2 y e
  · obtain rfl : y = b := by omega
    exact hb⟩
theorem upTo2_row {N S a : Nat} (h : upTo2 N S a (N + 1)) : upTo2 N S (a + 1) 0 := ⟨fun x hx y hy => by
  by_cases e : x < a
  · exact h.1 x e y hy
  · obtain rfl : x = a := by omega
    exact h.2 y hy, fun y hy => absurd hy (by omega)⟩
theorem upTo2_all {N S : Nat} (h : upTo2 N S (N + 1) 0) (h0 : bit S 0 = true) : closN N S = true := by
  unfold closN
  rw [h0, Bool.true_and]
  exact upB_mk fun a ha => upB_mk fun b hb => h.1 a ha b hb
theorem clos_miss {N S a b : Nat} (ha : a < N + 1) (hb : b < N + 1) (h : folB N S a b = false) : closN N S = false := by
  unfold closN
  rw [upB_no ha (upB_no hb h)]
  simp
theorem folB_a {N S a b : Nat} (h : bit S a = false) : folB N S a b = true := by unfold folB; rw [h]; rfl
theorem folB_b {N S a b : Nat} (h : bit S b = false) : folB N S a b = true := by unfold folB; rw [h]; simp
theorem folB_k {N S a b : Nat} (ha : bit S a = true) (hb : bit S b = true) : folB N S a b = bit S (folN N a b) := by unfold folB; rw [ha, hb]; rfl

theorem w64_pow {N : Nat} (h : N ≤ 6) : wrap64 (2 ^ (N + 1)) = ((2 ^ (N + 1) : Nat) : Int) ∧ wrap64 (wrap64 (2 ^ (N + 1)) - 1) = ((2 ^ (N + 1) : Nat) : Int) - 1 := by
  obtain rfl | rfl | rfl | rfl | rfl | rfl | rfl : N = 0 ∨ N = 1 ∨ N = 2 ∨ N = 3 ∨ N = 4 ∨ N = 5 ∨ N = 6 := by omega
  all_goals decide +kernel
theorem min_fol {N a b : Nat} (ha : a ≤ N) : (if (N : Int) - (a : Int) + (b : Int) < (N : Int) then (N : Int) - (a : Int) + (b : Int) else (N : Int)) = ((folN N a b : Nat) : Int) := by
  unfold folN
  by_cases h1 : (N : Int) - (a : Int) + (b : Int) < (N : Int)
  · rw [if_pos h1, if_pos (by omega)]; omega
  · rw [if_neg h1]
    by_cases h2 : N - a + b ≤ N
    · rw [if_pos h2]; omega
    · rw [if_neg h2]
theorem odd_facts {S : Nat} (h : bit S 0 = true) : ((S : Int) % 2 == 0) = false ∧ ((S : Int).tmod 2 == 0) = false := by
  have h1 : S % 2 = 1 := by
    rcases bit_cases S 0 with ⟨_, e⟩ | ⟨h', _⟩
    · simpa using e
    · rw [h] at h'; cases h'
  rw [Int.tmod_eq_emod_of_nonneg (by omega)]
  refine ⟨?_, ?_⟩ <;> (rw [beq_eq_false_iff_ne]; omega)

set_option maxHeartbeats 1000000 in
theorem sclosed_yes (N S : Nat) (hN : 1 ≤ N ∧ N ≤ 6) (hS : S < 2 ^ (N + 1)) (h0 : bit S 0 = true) (w : World) :
    Calls Tryd.prog 14 #[.int .i64 N, .int .i64 S] w fun e w' => e = .returned (.bool (closN N S)) ∧ w = w' := by
  have cn := in_any (N : Int) 1 6 w
  rw [inB_t (by omega)] at cn
  have hS0 : S ≠ 0 := by rintro rfl; cases h0
  have c2 : Calls Tryd.prog 45 #[.int .i64 S, .int .i64 1, .int .i64 (wrap64 (wrap64 (2 ^ (N + 1)) - 1))] w fun e w' => e = .returned (.bool true) ∧ w = w' := by
    have := in_any (S : Int) 1 (wrap64 (wrap64 (2 ^ (N + 1)) - 1)) w
    rw [inB_t (by rw [(w64_pow hN.2).2]; omega)] at this
    exact this
  have p7 := pow_le7 hN.2
  have hS7 : S < 128 := by omega
  obtain ⟨o1, o2⟩ := odd_facts h0
  have H0 := Lib.hid h0
  clear h0 hS p7
  go_enter Tryd.func14, Tryd.ntmps14
  go_wp2_with (go_at_call 45; first
    | ((with_reducible refine cn.mono ?_); clear cn; rintro e w' ⟨rfl, rfl⟩)
    | ((with_reducible refine c2.mono ?_); clear c2; rintro e w' ⟨rfl, rfl⟩))
  clear o1 o2
  go_loop [5] (fun i => ∃ a : Nat, a ≤ N + 1 ∧ i = .int .i64 a ∧ upTo2 N S a 0) (fun i => N + 1 - (intOf i).toNat)
  case atStart => exact ⟨0, by omega, rfl, fun x hx => absurd hx (by omega), fun y hy => absurd hy (by omega)⟩
  case round =>
    obtain ⟨a, ha, rfl, hok⟩ := hrel
    have Hok := Lib.hid hok
    clear hok
    by_cases hlt : a < N + 1
    · go_wp2
      go_loop [6] (fun j => ∃ b : Nat, b ≤ N + 1 ∧ j = .int .i64 b ∧ upTo2 N S a b) (fun j => N + 1 - (intOf j).toNat)
      case atStart => exact ⟨0, by omega, rfl, Hok.out⟩
      case round =>
        obtain ⟨b, hb, rfl, hok2⟩ := hrel
        have Hok2 := Lib.hid hok2
        clear hok2 Hok
        by_cases hltb : b < N + 1
        · cases hba : bit S a
          · obtain ⟨t1, t2⟩ := shr_f hba
            have hx := Lib.hid (folB_a (N := N) (b := b) hba)
            clear hba
            go_wp2
            go_round
            case rel => exact ⟨b + 1, by omega, by go_num, upTo2_next Hok2.out hx.out⟩
            case measure => simp [intOf]; omega
          · obtain ⟨t1, t2⟩ := shr_t hba
            cases hbb : bit S b
            · obtain ⟨u1, u2⟩ := shr_f hbb
              have hx := Lib.hid (folB_b (N := N) (a := a) hbb)
              clear hba hbb
              go_wp2
              go_round
              case rel => exact ⟨b + 1, by omega, by go_num, upTo2_next Hok2.out hx.out⟩
              case measure => simp [intOf]; omega
            · obtain ⟨u1, u2⟩ := shr_t hbb
              have hx := folB_k (N := N) hba hbb
              have hm := min_fol (b := b) (show a ≤ N by omega)
              have hfn := folN_le N a b
              cases hbk : bit S (folN N a b)
              · obtain ⟨v1, v2⟩ := shr_f hbk
                rw [hbk] at hx
                have hz := Lib.hid (clos_miss hlt hltb hx)
                clear hba hbb hx hbk
                generalize folN N a b = f at *
                go_wp2
                go_ret
                exact ⟨by rw [hz.out]; rfl, rfl⟩
              · obtain ⟨v1, v2⟩ := shr_t hbk
                rw [hbk] at hx
                have hz := Lib.hid hx
                clear hba hbb hx hbk
                generalize folN N a b = f at *
                go_wp2
                go_round
                case rel => exact ⟨b + 1, by omega, by go_num, upTo2_next Hok2.out hz.out⟩
                case measure => simp [intOf]; omega
        · obtain rfl : b = N + 1 := by omega
          have hz := Lib.hid (upTo2_row Hok2.out)
          go_wp2
          go_round
          case rel => exact ⟨a + 1, by omega, by go_num, hz.out⟩
          case measure => simp [intOf]; omega
    · obtain rfl : a = N + 1 := by omega
      have hz := Lib.hid (upTo2_all Hok.out H0.out)
      go_wp2
      go_ret
      exact ⟨by rw [hz.out]; rfl, rfl⟩

end Go.Proofs.YtahlmdlnemmhpaaDoor
