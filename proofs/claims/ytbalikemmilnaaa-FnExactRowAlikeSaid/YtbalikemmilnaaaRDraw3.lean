/-
  The draw of RowOk: some chain and a row, or none or eight noughts.
-/
import Derived.Test.YtbalikemmilnaaaRDraw
import Derived.Deep.RegionHeld3
namespace Go.Proofs.Ytbalikemmilnaaa
open Go.RowKit

def NRowPost (w : World) (e : Ending) (w' : World) : Prop :=
  ∃ (n : Int) (xs : List Int) (a : Option Addr) (ca : Nat), e = .returned (.tuple #[.int .i64 n, .slice a xs.length ca]) ∧ -1 ≤ n ∧ n ≤ 7 ∧ xs.length ≤ 8 ∧ IntsAt w' a xs ∧ w.grownBy w' none

theorem undrawR {a b : World} {row : Option Nat} (h : a.drew.grownBy b row) : a.grownBy b row := ⟨h.os, h.tape, h.output, h.size, h.block⟩
/-- None or eight noughts, made. -/
theorem mk_run (k : Int) (h0 : 0 ≤ k) (h1 : k < 2 ∨ k = 0) : ∃ xs : List Int, xs.length ≤ 8 ∧ ∀ w : World, (Instr.makeSlice 29 (.int .i64 (IntKind.i64.wrap (k * 8))) (.int .i64 (IntKind.i64.wrap (k * 8)))).run Try.prog w = .ok (.slice (some ⟨w.heap.size, 0, none⟩) xs.length xs.length) (w.alloc (.cells (xs.map (Value.int .i64)).toArray 3)) := by
  obtain rfl | rfl : k = 0 ∨ k = 1 := by omega
  · exact ⟨[], by simp, fun w => by kernel_rfl⟩
  · exact ⟨[0, 0, 0, 0, 0, 0, 0, 0], by simp, fun w => by kernel_rfl⟩
theorem ints_made (w : World) (xs : List Int) (h : xs.length ≤ 8) : IntsAt (w.alloc (.cells (xs.map (Value.int .i64)).toArray 3)) (some ⟨w.heap.size, 0, none⟩) xs := by
  have := World.ownsRow_lit (e := 3) (size := 1) (base := 0) w (xs.map (Value.int .i64)).toArray xs.length (Nat.zero_le _) (by unfold maxLen; omega) (by simp)
  exact OwnI.at (cap := xs.length) (by unfold OwnI; simpa using this) (by unfold maxLen; omega)

set_option maxRecDepth 100000 in
set_option maxHeartbeats 4000000 in
theorem DrawRowOk_any (a : Option Addr) (len cap : Nat) (zs : List Int) (w : World) (h : IsRow .u8 w a len cap zs) :
    Calls Try.prog 27 #[.slice a len cap] w (NRowPost w) := by
  go_enter Try.func27, Try.ntmps27
  go_wp2_with fail
  refine (open_draw a len cap zs _ h).mono ?_
  rintro e w1 ⟨rfl, hr1, hg1⟩
  clear h
  go_wp2_with fail
  refine (steps_draw _ _ _ _ hr1 (by omega) (by omega) (by omega)).mono ?_
  rintro e w2 ⟨n, rfl, n1, n2, hr2, hg2⟩
  replace hg1 := grownBy_own hg1 hg2
  go_wp2_with fail
  refine (odd_any _ _ _ _ hr2 (by omega) (by omega) (by omega)).mono ?_
  rintro e w3 ⟨q, rfl, hr3, hg3⟩
  replace hg1 := grownBy_own hg1 hg3
  clear hg2 hg3 hr1 hr2
  cases q
  · go_wp2_with fail
    refine (row_draw n _ _ _ hr3 (by omega) (by omega) (by omega)).mono ?_
    rintro e w4 ⟨xs, a, ca, rfl, x1, x2, hca, hxs, hX, hXr, hr4, hg4⟩
    have HX := Lib.hid hX
    clear hX hXr hxs
    go_wp2_with fail
    go_ret2
    exact ⟨n, xs, a, ca, rfl, n1, n2, by omega, HX.out, grownBy_own hg1 hg4⟩
  · go_wp2_with fail
    go_region_with (first | (go_at_call 50; refine (pick_any _ _ _ _ (by assumption) (by omega)).mono ?_; rintro e w4 ⟨k, rfl, k0, k1, hr4, hg4⟩; obtain ⟨ys, hy8, hmk⟩ := mk_run k k0 k1))
    all_goals
      have hgA := Lib.hid (grownBy_own hg1 (undrawR hg4))
      clear hg1 hg4 hr4 hr3 hmk
      go_wp2_with fail
    all_goals
      go_ret2
      exact ⟨n, ys, _, _, rfl, n1, n2, hy8, ints_made _ ys hy8, grownBy_trans hgA.out (World.grownBy_alloc _ _ none)⟩

end Go.Proofs.Ytbalikemmilnaaa
