/-
  The draws of chapter 6.
-/
import Derived.Test.YtahlmdlnemmhpaaDoorZSpecM
import Derived.Test.YtahlmdlnemmhpaaDoorDraw4
import Derived.Deep.RegionHeld3
import Derived.BigQuiet
import Derived.Deep.QuietTactic
import Derived.IntWalk
namespace Go.Proofs.YtahlmdlnemmhpaaDoor
open Go.RowKit

def SetPost (r P : Nat) (w : World) (e : Ending) (w' : World) : Prop :=
  ∃ n s : Int, e = .returned (.tuple #[.int .i64 n, .int .i64 s]) ∧ -1 ≤ n ∧ n ≤ 7 ∧ -300 ≤ s ∧ s ≤ 600 ∧ Rd w' r (P + 5) ∧ w.grownBy w' (some r)

theorem Rd.drewZ {w : World} {r P : Nat} (h : Rd w r P) : Rd w.drew r P := h.kept fun _ _ => rfl
theorem undrewZ {a b : World} {row : Option Nat} (h : a.drew.grownBy b row) : a.grownBy b row := ⟨h.os, h.tape, h.output, h.size, h.block⟩
theorem quo_two {k d : Int} (h0 : 0 ≤ k) (h1 : k < d + 1 ∨ k = 0) (hd : 1 ≤ d) : ∃ q : Int, k.tdiv d = q ∧ k / d = q ∧ 0 ≤ q ∧ q ≤ 1 := by
  by_cases h : k < d
  · exact ⟨0, by rw [Int.tdiv_eq_ediv_of_nonneg h0]; exact Int.ediv_eq_zero_of_lt h0 h, Int.ediv_eq_zero_of_lt h0 h, by omega, by omega⟩
  · have e : k = d := by omega
    subst e
    exact ⟨1, Int.tdiv_self (by omega), Int.ediv_self (by omega), by omega, by omega⟩

theorem set_bounds {t q2 q3 : Int} (ht : 0 ≤ t ∧ t < 256) (h2 : 0 ≤ q2 ∧ q2 ≤ 1) (h3 : 0 ≤ q3 ∧ q3 ≤ 1) :
    -300 ≤ IntKind.i64.wrap (IntKind.i64.wrap (t + IntKind.i64.wrap (IntKind.i64.wrap q2 * 256)) - IntKind.i64.wrap (IntKind.i64.wrap q3 * 300)) ∧ IntKind.i64.wrap (IntKind.i64.wrap (t + IntKind.i64.wrap (IntKind.i64.wrap q2 * 256)) - IntKind.i64.wrap (IntKind.i64.wrap q3 * 300)) ≤ 600 := by
  rw [IntWalk.i64_in q2 (by omega), IntWalk.i64_in q3 (by omega), IntWalk.i64_in (q2 * 256) (by omega), IntWalk.i64_in (q3 * 300) (by omega), IntWalk.i64_in (t + q2 * 256) (by omega), IntWalk.i64_in (t + q2 * 256 - q3 * 300) (by omega)]
  omega

set_option maxHeartbeats 8000000 in
theorem set_draw (w : World) (r P : Nat) (h : Rd w r P) (hP : P ≤ 90000) (n : Int) (hn : 1 ≤ n) (hn2 : n ≤ 1000) :
    Calls Tryd.prog 40 #[.pointer (some ⟨r, 0, none⟩), .int .i64 n] w (SetPost r P w) := by
  go_enter Tryd.func40, Tryd.ntmps40
  go_wp2_with fail
  refine (steps_draw _ _ _ _ h (by omega) (by omega) (by omega)).mono ?_
  rintro e w2 ⟨n, rfl, hn1, hn2, hr2, hg2⟩
  clear h
  have g4 : IntKind.i64.wrap 4 = 4 := by decide
  have g8 : IntKind.i64.wrap 8 = 8 := by decide
  have g16 : IntKind.i64.wrap 16 = 16 := by decide
  have g32 : IntKind.i64.wrap 32 = 32 := by decide
  have g64 : IntKind.i64.wrap 64 = 64 := by decide
  have g128 : IntKind.i64.wrap 128 = 128 := by decide
  have g256 : IntKind.i64.wrap 256 = 256 := by decide
  have e2 : IntKind.i64.wrap 2 = 2 := by decide
  have e3 : IntKind.i64.wrap 3 = 3 := by decide
  have e5 : IntKind.i64.wrap 5 = 5 := by decide
  have e6 : IntKind.i64.wrap 6 = 6 := by decide
  have e7 : IntKind.i64.wrap 7 = 7 := by decide
  obtain rfl | rfl | rfl | rfl | rfl | rfl | rfl | rfl | rfl : n = -1 ∨ n = 0 ∨ n = 1 ∨ n = 2 ∨ n = 3 ∨ n = 4 ∨ n = 5 ∨ n = 6 ∨ n = 7 := by omega
  all_goals
    go_wp2_with fail
    go_region_held3 (fun _ => True) (exact trivial) (first
      | (go_at_call 41; refine (pick_any _ _ _ _ hrb (by omega)).mono ?_; rintro e wc ⟨k3, rfl, hk3, hl3, hrc, hgc⟩; obtain ⟨q3, hq3, hq3', hq30, hq31⟩ := quo_two (d := 39) hk3 hl3 (by decide))
      | (go_at_call 41; refine (pick_any _ _ _ _ hra (by omega)).mono ?_; rintro e wb ⟨k2, rfl, hk2, hl2, hrb, hgb⟩; obtain ⟨q2, hq2, hq2', hq20, hq21⟩ := quo_two (d := 29) hk2 hl2 (by decide))
      | (go_at_call 41; refine (pick_any _ _ _ _ hr2.drewZ (by omega)).mono ?_; rintro e wa ⟨k1, rfl, hk1, hl1, hra, hga⟩))
    all_goals
      go_wp2_with fail
    all_goals
      go_ret2
      exact ⟨_, _, rfl, by omega, by omega, (set_bounds (by rw [Int.tmod_eq_emod_of_nonneg hk1]; omega) ⟨hq20, hq21⟩ ⟨hq30, hq31⟩).1, (set_bounds (by rw [Int.tmod_eq_emod_of_nonneg hk1]; omega) ⟨hq20, hq21⟩ ⟨hq30, hq31⟩).2, hrc, grownBy_trans hg2 (grownBy_trans (undrewZ hga) (grownBy_trans hgb hgc))⟩

end Go.Proofs.YtahlmdlnemmhpaaDoor
