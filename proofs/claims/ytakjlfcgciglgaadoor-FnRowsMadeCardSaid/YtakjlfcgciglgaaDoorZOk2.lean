/-
  What impl.StepsFor, impl.ClosedSets and impl.ChainWithin answer. The table of math/bits lies as it is laid (ChainWithin wants none).
-/
import Derived.Test.YtakjlfcgciglgaaDoorZOk
import Derived.Test.YtakjlfcgciglgaaDoorRow
namespace Go.Proofs.YtakjlfcgciglgaaDoor
open Go.RowKit

def onesOk (x k : Nat) : Bool := [(3, 2), (5, 2), (7, 3), (9, 2), (15, 4), (17, 2), (21, 3), (31, 5), (33, 2), (63, 6), (65, 2), (73, 3), (85, 4), (127, 7)].any fun p => p.1 == x && p.2 == k
theorem ones_tab : tabN (fun n s => !closN n s || onesOk s (stpN n s + 1)) = true := by decide +kernel

theorem ones_nat (x k : Nat) (h : onesOk x k = true) (w : World) :
    Calls Tryd.prog 41 #[.int .u64 x] w fun e w' => e = .returned (.int .i64 k) ∧ w = w' := by
  unfold onesOk at h
  rw [List.any_eq_true] at h
  obtain ⟨p, hp, h⟩ := h
  simp only [Bool.and_eq_true, beq_iff_eq] at h
  obtain ⟨rfl, rfl⟩ := h
  simp only [List.mem_cons, List.not_mem_nil, or_false] at hp
  rcases hp with rfl | rfl | rfl | rfl | rfl | rfl | rfl | rfl | rfl | rfl | rfl | rfl | rfl | rfl
  all_goals exact ones_lit _ _ (by decide) w

theorem ones_any (x k : Nat) (h : onesOk x k = true) (w : World) :
    Calls Tryd.prog 28 #[.int .u64 x] w fun e w' => e = .returned (.int .i64 k) ∧ w = w' := by
  have hx : x < 128 := by
    unfold onesOk at h
    rw [List.any_eq_true] at h
    obtain ⟨p, hp, h⟩ := h
    simp only [Bool.and_eq_true, beq_iff_eq] at h
    rw [← h.1]
    clear h
    revert p
    decide
  have cc := ones_nat x k h w
  have hw : IntKind.u64.wrap (x : Int) = (x : Int) := by rw [IntKind.wrap_u64]; omega
  clear h
  go_enter Tryd.func28, Tryd.ntmps28
  go_wp2_with (go_at_call 41; refine cc.mono ?_; rintro e w' ⟨rfl, rfl⟩)
  go_ret
  exact ⟨rfl, rfl⟩

def setsT (n : Nat) : Nat → List Int
  | 0 => []
  | s + 1 => if closN n s then setsT n s ++ [(s : Int)] else setsT n s
theorem setsT_hit {n s : Nat} (h : closN n s = true) : setsT n (s + 1) = setsT n s ++ [(s : Int)] := if_pos h
theorem setsT_miss {n s : Nat} (h : closN n s = false) : setsT n (s + 1) = setsT n s := if_neg (by rw [h]; decide)
theorem setsT_len (n : Nat) : ∀ s, (setsT n s).length ≤ s := by
  intro s
  induction s with
  | zero => exact Nat.le_refl _
  | succ s ih =>
    cases h : closN n s
    · rw [setsT_miss h]; omega
    · rw [setsT_hit h, List.length_append]; simp; omega
theorem setsT_lit {N : Nat} (hN : 1 ≤ N ∧ N ≤ 6) : setsT N (2 ^ (N + 1)) = setsI (N : Int) := by
  have h : [1, 2, 3, 4, 5, 6].all (fun n => setsT n (2 ^ (n + 1)) == (setsL n).map Int.ofNat) = true := by decide +kernel
  rw [List.all_eq_true] at h
  unfold setsI
  rw [inB_t (by omega), Int.toNat_natCast]
  exact eq_of_beq (h N (by simp; omega))

end Go.Proofs.YtakjlfcgciglgaaDoor
