/-
  What both ChainWithin answer, the program's and the model's. No condition.
-/
import Derived.Test.YtahlmdlnemmhpaaDoorZImp
import Derived.Test.YtahlmdlnemmhpaaDoorMoved
namespace Go.Proofs.YtahlmdlnemmhpaaDoor
open Go.RowKit

def wTo (n m : Nat) : Nat → Nat
  | 0 => 0
  | v + 1 => if mvB (n : Int) (v : Int) (m : Int) then wTo n m v ||| 2 ^ v else wTo n m v
theorem wTo_hit {n m v : Nat} (h : mvB (n : Int) (v : Int) (m : Int) = true) : wTo n m (v + 1) = wTo n m v ||| 2 ^ v := if_pos h
theorem wTo_miss {n m v : Nat} (h : mvB (n : Int) (v : Int) (m : Int) = false) : wTo n m (v + 1) = wTo n m v := if_neg (by rw [h]; decide)
theorem wTo_lt (n m : Nat) : ∀ v, wTo n m v < 2 ^ v := by
  intro v
  induction v with
  | zero => exact Nat.zero_lt_one
  | succ v ih =>
    have h1 : wTo n m v < 2 ^ (v + 1) := Nat.lt_trans ih (Nat.pow_lt_pow_right (by omega) (by omega))
    cases h : mvB (n : Int) (v : Int) (m : Int)
    · rw [wTo_miss h]; exact h1
    · rw [wTo_hit h]; exact or_lt h1 (Nat.pow_lt_pow_right (by omega) (by omega))
theorem wTo_lit {n m : Nat} (hn : 1 ≤ n ∧ n ≤ 6) (hm : 1 ≤ m ∧ m ≤ 6) (hd : n % m = 0) : wTo n m (n + 1) = withinN n m := by
  have h : [1, 2, 3, 4, 5, 6].all (fun n => [1, 2, 3, 4, 5, 6].all fun m => !(n % m == 0) || wTo n m (n + 1) == withinN n m) = true := by decide +kernel
  rw [List.all_eq_true] at h
  have h1 := h n (by simp; omega)
  rw [List.all_eq_true] at h1
  have h2 := h1 m (by simp; omega)
  rw [hd] at h2
  simpa using h2

theorem withI_f {n m : Int} (h : inB n 1 6 = false ∨ inB m 1 6 = false ∨ ¬ n.toNat % m.toNat = 0) : withI n m = -1 := by
  unfold withI
  rcases h with h | h | h
  · rw [h]; rfl
  · rw [h]; simp
  · rw [show (n.toNat % m.toNat == 0) = false by simpa using h]; simp
theorem withI_t {N M : Nat} (hn : 1 ≤ N ∧ N ≤ 6) (hm : 1 ≤ M ∧ M ≤ 6) (hd : N % M = 0) : withI (N : Int) (M : Int) = (withinN N M : Int) := by
  unfold withI
  rw [inB_t (by omega), inB_t (by omega), Int.toNat_natCast, Int.toNat_natCast, hd]
  rfl

set_option maxHeartbeats 1000000 in
theorem with_no (n m : Int) (w : World) (h : inB n 1 6 = false ∨ inB m 1 6 = false) :
    Calls Tryd.prog 26 #[.int .i64 n, .int .i64 m] w fun e w' => e = .returned (.int .i64 (-1)) ∧ w.grownBy w' none := by
  have cn := steps_any n w
  have cm := steps_any m w
  cases hn : inB n 1 6
  · rw [hn] at cn
    clear cm hn h
    go_enter Tryd.func26, Tryd.ntmps26
    go_wp2_with (go_at_call 49; refine cn.mono ?_; rintro e w' ⟨rfl, rfl⟩)
    go_ret
    exact ⟨rfl, grownBy_refl _ _⟩
  · have hm : inB m 1 6 = false := by
      rcases h with h | h
      · rw [h] at hn; cases hn
      · exact h
    rw [hn] at cn
    rw [hm] at cm
    clear hn hm h
    go_enter Tryd.func26, Tryd.ntmps26
    go_wp2_with (go_at_call 49; first
      | ((with_reducible refine cn.mono ?_); clear cn; rintro e w' ⟨rfl, rfl⟩)
      | ((with_reducible refine cm.mono ?_); clear cm; rintro e w' ⟨rfl, rfl⟩))
    go_ret
    exact ⟨rfl, grownBy_refl _ _⟩

set_option maxHeartbeats 1000000 in
theorem with_rest (N M : Nat) (hn : 1 ≤ N ∧ N ≤ 6) (hm : 1 ≤ M ∧ M ≤ 6) (hd : ¬ N % M = 0) (w : World) :
    Calls Tryd.prog 26 #[.int .i64 N, .int .i64 M] w fun e w' => e = .returned (.int .i64 (-1)) ∧ w.grownBy w' none := by
  have cn := steps_any (N : Int) w
  rw [inB_t (by omega)] at cn
  have cm := steps_any (M : Int) w
  rw [inB_t (by omega)] at cm
  have d1 : ((N : Int) % (M : Int) == 0) = false := by rw [beq_eq_false_iff_ne]; intro h; exact hd (by exact_mod_cast h)
  have d2 : ((N : Int) % (M : Int) != 0) = true := by simp [bne, d1]
  have hd' := Lib.hid hd
  clear hd
  go_enter Tryd.func26, Tryd.ntmps26
  go_wp2_with (go_at_call 49; first
    | ((with_reducible refine cn.mono ?_); clear cn; rintro e w' ⟨rfl, rfl⟩)
    | ((with_reducible refine cm.mono ?_); clear cm; rintro e w' ⟨rfl, rfl⟩))
  go_ret
  exact ⟨rfl, grownBy_refl _ _⟩

set_option maxHeartbeats 1000000 in
theorem with_yes (N M : Nat) (hn : 1 ≤ N ∧ N ≤ 6) (hm : 1 ≤ M ∧ M ≤ 6) (hd : N % M = 0) (w : World) :
    Calls Tryd.prog 26 #[.int .i64 N, .int .i64 M] w fun e w' => e = .returned (.int .i64 ((withinN N M : Nat) : Int)) ∧ w.grownBy w' none := by
  have cn := steps_any (N : Int) w
  rw [inB_t (by omega)] at cn
  have cm := steps_any (M : Int) w
  rw [inB_t (by omega)] at cm
  have d1 : ((N : Int) % (M : Int) == 0) = true := by rw [beq_iff_eq]; exact_mod_cast hd
  have d2 : ((N : Int) % (M : Int) != 0) = false := by simp [bne, d1]
  have cv := fun (v : Nat) (w : World) => moved_any (N : Int) (v : Int) (M : Int) w
  rw [← wTo_lit hn hm hd]
  clear hd
  go_enter Tryd.func26, Tryd.ntmps26
  go_wp2_with (go_at_call 49; first
    | ((with_reducible refine cn.mono ?_); clear cn; rintro e w' ⟨rfl, rfl⟩)
    | ((with_reducible refine cm.mono ?_); clear cm; rintro e w' ⟨rfl, rfl⟩))
  clear d1 d2
  go_loopw [5, 25] (fun s i wr => ∃ v : Nat, v ≤ N + 1 ∧ i = .int .i64 v ∧ s = .int .i64 ((wTo N M v : Nat) : Int) ∧ w.grownBy wr none) (fun _ i _ => N + 1 - (intOf i).toNat)
  case atStart => exact ⟨0, by omega, rfl, rfl, grownBy_refl _ _⟩
  case round =>
    obtain ⟨v, hv, rfl, rfl, hgr⟩ := hrel
    by_cases hlt : v < N + 1
    · have c2 := cv v wr
      have hwl := wTo_lt N M v
      unfold MvPost at c2
      cases hb : mvB (N : Int) (v : Int) (M : Int)
      · rw [hb] at c2
        have e := Lib.hid (wTo_miss hb)
        clear hb cv
        go_wp2_with (go_at_call 52; refine c2.mono ?_; rintro e w2 ⟨rfl, hg2⟩)
        go_roundw
        case rel => exact ⟨v + 1, by omega, by go_num, by rw [e.out], grownBy_trans hgr hg2⟩
        case measure => simp [intOf]; omega
      · rw [hb] at c2
        have e := Lib.hid (wTo_hit hb)
        have ce := setOf_any v (by omega)
        have hor : bits .or .i64 ((wTo N M v : Nat) : Int) ((2 ^ v : Nat) : Int) = ((wTo N M (v + 1) : Nat) : Int) := by
          rw [e.out]
          exact or64 (Nat.lt_trans hwl (Nat.pow_lt_pow_right (by omega) (by omega))) (Nat.pow_lt_pow_right (by omega) (by omega))
        generalize 2 ^ v = k2 at *
        clear hb cv e hwl
        go_wp2_with (first
          | (go_at_call 52; refine c2.mono ?_; rintro e w2 ⟨rfl, hg2⟩)
          | (go_at_call 53; refine (ce _).mono ?_; rintro e w3 ⟨rfl, rfl⟩))
        go_roundw
        case rel => exact ⟨v + 1, by omega, by go_num, rfl, grownBy_trans hgr hg2⟩
        case measure => simp [intOf]; omega
    · obtain rfl : v = N + 1 := by omega
      go_wp2
      go_ret
      exact ⟨rfl, hgr⟩

theorem within_chain (n m : Int) (w : World) :
    Calls Tryd.prog 26 #[.int .i64 n, .int .i64 m] w fun e w' => e = .returned (.int .i64 (withI n m)) ∧ w.grownBy w' none := by
  cases hn : inB n 1 6
  · rw [withI_f (.inl hn)]; exact with_no n m w (.inl hn)
  · cases hm : inB m 1 6
    · rw [withI_f (.inr (.inl hm))]; exact with_no n m w (.inr hm)
    · have h1 := inB_of hn
      have h2 := inB_of hm
      obtain ⟨N, rfl⟩ : ∃ N : Nat, n = (N : Int) := ⟨n.toNat, by omega⟩
      obtain ⟨M, rfl⟩ : ∃ M : Nat, m = (M : Int) := ⟨m.toNat, by omega⟩
      by_cases hd : N % M = 0
      · rw [withI_t (by omega) (by omega) hd]; exact with_yes N M (by omega) (by omega) hd w
      · rw [withI_f (.inr (.inr (by simpa using hd)))]; exact with_rest N M (by omega) (by omega) hd w

end Go.Proofs.YtahlmdlnemmhpaaDoor
