/-
  Contracts of l20Steps, l20Value, l20Open: what they draw lies in its range, and they write the reader's own block alone. The code is of any length; the reader has been asked at most P times.
-/
import Derived.Test.YtnkebgkocpeonaaDraw
namespace Go.Proofs.Ytnkebgkocpeonaa
open Go.RowKit

theorem Rd.alloc {w : World} {r P : Nat} (h : Rd w r P) (o : Obj) : Rd (w.alloc o) r P :=
  h.kept fun k hk => Below.heap_alloc w o k (Nat.lt_of_le_of_lt hk h.lt)
theorem Rd.grown {w w' : World} {r P : Nat} (h : Rd w r P) (hg : w.grownBy w' none) : Rd w' r P :=
  h.kept fun k hk => hg.block k (Nat.lt_of_le_of_lt hk h.lt) (by simp)

def StepsPost (r P : Nat) (w : World) (e : Ending) (w' : World) : Prop :=
  ∃ k : Int, e = .returned (.int .i64 k) ∧ -1 ≤ k ∧ k ≤ 7 ∧ Rd w' r (P + 2) ∧ w.grownBy w' (some r)

theorem steps_draw (n : Int) (w : World) (r P : Nat) (h : Rd w r P) (hP : P ≤ 100000) (hn : 1 ≤ n) (hn2 : n ≤ 1000) :
    Calls Try.prog 46 #[.pointer (some ⟨r, 0, none⟩), .int .i64 n] w (StepsPost r P w) := by
  go_enter Try.func46, Try.ntmps46
  go_wp2_with (go_at_call 68; refine (odd_any _ _ _ _ h (by omega) hn hn2).mono ?_; rintro e w1 ⟨b, rfl, hrd, hg⟩)
  · have hlt := hrd.lt
    refine (pick_any _ _ _ _ (hrd.alloc _) (by omega)).mono ?_
    rintro e w2 ⟨k, rfl, hk0, hk1, hrd2, hg2⟩
    have hb := hg2.block w1.heap.size (by simp) (by simp; omega)
    have hbn : (w1.alloc (.cells #[.int .i64 0, .int .i64 (-1), .int .i64 7] 3)).heap[w1.heap.size]? = some (.cells #[.int .i64 0, .int .i64 (-1), .int .i64 7] 3) := heap_alloc_new w1 _
    have hb' := hb.trans hbn
    have hc0 : w2.cell? ⟨w1.heap.size, 0, none⟩ = some (.int .i64 0) := by simp [World.cell?, hb']
    have hc1 : w2.cell? ⟨w1.heap.size, 1, none⟩ = some (.int .i64 (-1)) := by simp [World.cell?, hb']
    have hc2 : w2.cell? ⟨w1.heap.size, 2, none⟩ = some (.int .i64 7) := by simp [World.cell?, hb']
    have hgg := grownBy_trans (grownBy_trans hg (World.grownBy_alloc w1 _ _)) hg2
    clear hb hbn hb' hg2 hg
    obtain rfl | rfl | rfl : k = 0 ∨ k = 1 ∨ k = 2 := by omega
    all_goals
      go_wp2
      go_ret
      exact ⟨_, rfl, by omega, by omega, hrd2, hgg⟩
  · refine (pick_any _ _ _ _ hrd (by omega)).mono ?_
    rintro e w2 ⟨k, rfl, hk0, hk1, hrd2, hg2⟩
    go_wp2
    go_ret
    exact ⟨_, rfl, by omega, by omega, hrd2, grownBy_trans hg hg2⟩

def ValuePost (r P : Nat) (w : World) (e : Ending) (w' : World) : Prop :=
  ∃ k : Int, e = .returned (.int .i64 k) ∧ -16 ≤ k ∧ k ≤ 1016 ∧ Rd w' r (P + 3) ∧ w.grownBy w' (some r)

end Go.Proofs.Ytnkebgkocpeonaa
