/-
  What the program's small functions on sets answer: a set of one value, all values, whether a set may be asked, whether one lies within another, and the lowest value of a set by math/bits.TrailingZeros (its table as it is laid).
-/
import Derived.Test.YtakjlfcgciglgaaDoorSetI
import Derived.Shelf.Spec.TrailingZeros
import Derived.Below
namespace Go.Proofs.YtakjlfcgciglgaaDoor
open Go.RowKit

/-- The library's table, as it is laid. -/
def TzAt (w : World) : Prop := TabAt 1 Lib.deBruijn64tab w

theorem TzAt.lt {w : World} (h : TzAt w) : 1 < w.heap.size := World.block_lt_of_cell? w _ (h 0 (by decide))

theorem TzAt.kept {w w' : World} (h : TzAt w) (hb : w'.heap[1]? = w.heap[1]?) : TzAt w' := fun j hj => (World.cell?_of_block (w := w) hb).trans (h j hj)

theorem TzAt.grown {w w' : World} (h : TzAt w) (hg : w.grownBy w' none) : TzAt w' := h.kept (hg.block _ h.lt (by simp))

theorem TzAt.below {n : Nat} {w w' : World} (h : TzAt w) (hb : Below n w w') (hn : 1 < n) : TzAt w' := h.kept (hb.block _ hn)

theorem seven6 {k : Int} (h : 0 ≤ k ∧ k ≤ 6) : k = 0 ∨ k = 1 ∨ k = 2 ∨ k = 3 ∨ k = 4 ∨ k = 5 ∨ k = 6 := by omega

theorem setOf_int (k : Int) (h : 0 ≤ k ∧ k ≤ 6) (w : World) :
    Calls Tryd.prog 26 #[.int .i64 k] w fun e w' => e = .returned (.int .i64 (2 ^ k.toNat)) ∧ w = w' := by
  rcases seven6 h with rfl | rfl | rfl | rfl | rfl | rfl | rfl
  all_goals
    clear h
    go_enter Tryd.func26, Tryd.ntmps26
    go_wp2
    go_ret
    exact ⟨rfl, rfl⟩

theorem setOf_any (k : Nat) (h : k ≤ 6) (w : World) :
    Calls Tryd.prog 26 #[.int .i64 k] w fun e w' => e = .returned (.int .i64 ((2 ^ k : Nat) : Int)) ∧ w = w' := by
  have := setOf_int (k : Int) (by omega) w
  rw [Int.toNat_natCast] at this
  rw [Int.natCast_pow]
  exact this

theorem six6 {k : Int} (h : 1 ≤ k ∧ k ≤ 6) : k = 1 ∨ k = 2 ∨ k = 3 ∨ k = 4 ∨ k = 5 ∨ k = 6 := by omega

theorem allV_any (n : Int) (h : 1 ≤ n ∧ n ≤ 6) (w : World) :
    Calls Tryd.prog 51 #[.int .i64 n] w fun e w' => e = .returned (.int .i64 (2 ^ (n.toNat + 1) - 1)) ∧ w = w' := by
  rcases six6 h with rfl | rfl | rfl | rfl | rfl | rfl
  all_goals
    clear h
    go_enter Tryd.func51, Tryd.ntmps51
    go_wp2
    go_ret
    exact ⟨rfl, rfl⟩

theorem okS_t {n s : Int} (hn : inB n 1 6 = true) (h0 : 0 ≤ s) (h1 : s ≤ 2 ^ (n.toNat + 1) - 1) : okS n s = true := by
  have h2 : (s.toNat : Int) < ((2 ^ (n.toNat + 1) : Nat) : Int) := by rw [Int.natCast_pow, Int.toNat_of_nonneg h0]; push_cast; omega
  unfold okS
  rw [hn, decide_eq_true h0, decide_eq_true (by omega : s.toNat < 2 ^ (n.toNat + 1))]
  rfl
theorem okS_f {n s : Int} (h : inB n 1 6 = false ∨ s < 0 ∨ 2 ^ (n.toNat + 1) - 1 < s) : okS n s = false := by
  unfold okS
  rcases h with h | h | h
  · rw [h]; rfl
  · rw [decide_eq_false (by omega : ¬ 0 ≤ s)]; simp
  · have h2 : ((2 ^ (n.toNat + 1) : Nat) : Int) ≤ s := by rw [Int.natCast_pow]; push_cast; omega
    rw [decide_eq_false (by omega : ¬ s.toNat < 2 ^ (n.toNat + 1))]; simp

theorem setOk_any (n s : Int) (w : World) :
    Calls Tryd.prog 46 #[.int .i64 n, .int .i64 s] w fun e w' => e = .returned (.bool (okS n s)) ∧ w = w' := by
  have cs := steps_any n w
  cases hi : inB n 1 6
  · rw [okS_f (.inl hi)]
    rw [hi] at cs
    go_enter Tryd.func46, Tryd.ntmps46
    go_wp2_with (go_at_call 13; refine cs.mono ?_; rintro e w' ⟨rfl, rfl⟩)
    go_ret
    exact ⟨rfl, rfl⟩
  · rw [hi] at cs
    have ca := allV_any n (inB_of hi) w
    by_cases h0 : 0 ≤ s
    · by_cases h1 : s ≤ 2 ^ (n.toNat + 1) - 1
      · rw [okS_t hi h0 h1]
        generalize (2 : Int) ^ (n.toNat + 1) - 1 = m at *
        go_enter Tryd.func46, Tryd.ntmps46
        go_wp2_with (first | (go_at_call 13; refine cs.mono ?_; rintro e w' ⟨rfl, rfl⟩) | (go_at_call 51; refine ca.mono ?_; rintro e w' ⟨rfl, rfl⟩))
        go_ret
        exact ⟨rfl, rfl⟩
      · rw [okS_f (.inr (.inr (by omega)))]
        generalize (2 : Int) ^ (n.toNat + 1) - 1 = m at *
        go_enter Tryd.func46, Tryd.ntmps46
        go_wp2_with (first | (go_at_call 13; refine cs.mono ?_; rintro e w' ⟨rfl, rfl⟩) | (go_at_call 51; refine ca.mono ?_; rintro e w' ⟨rfl, rfl⟩))
        go_ret
        exact ⟨by simp [h1], rfl⟩
    · rw [okS_f (.inr (.inl (by omega)))]
      go_enter Tryd.func46, Tryd.ntmps46
      go_wp2_with (first | (go_at_call 13; refine cs.mono ?_; rintro e w' ⟨rfl, rfl⟩) | (go_at_call 51; refine ca.mono ?_; rintro e w' ⟨rfl, rfl⟩))
      go_ret
      exact ⟨rfl, rfl⟩

theorem within_any (p s : Nat) (hp : p < 128) (hs : s < 128) (w : World) :
    Calls Tryd.prog 25 #[.int .i64 p, .int .i64 s] w fun e w' => e = .returned (.bool (subN p s)) ∧ w = w' := by
  have h := sub_of hp hs
  clear hp hs
  cases hb : subN p s
  all_goals
    rw [hb] at h
    go_enter Tryd.func25, Tryd.ntmps25
    go_wp2
    go_ret
    exact ⟨rfl, rfl⟩

set_option maxHeartbeats 1000000 in
theorem tz64_core (x k idx : Nat) (w : World) (hx0 : ((x : Int) == 0) = false)
    (key : IntKind.u64.wrap (bits BinOp.and IntKind.u64 (x : Int) (IntKind.u64.wrap (-(x : Int))) * 285870213051353865) / 288230376151711744 = (idx : Int))
    (hi : idx < 64) (hk : k < 64) (hcell : w.cell? ⟨1, idx, none⟩ = some (.int .u8 k)) :
    Calls Tryd.prog 75 #[.int .u64 x] w fun e w' => e = .returned (.int .i64 k) ∧ w = w' := by
  go_enter Tryd.func75, Tryd.ntmps75
  go_wp2_with (simp only [key])
  go_ret
  exact ⟨rfl, rfl⟩

theorem tz_any (x : Nat) (hx : x < 128) (h0 : x ≠ 0) (w : World) (hT : TzAt w) :
    Calls Tryd.prog 66 #[.int .u64 x] w fun e w' => e = .returned (.int .i64 (Lib.ctz 64 x : Nat)) ∧ w = w' := by
  obtain ⟨hlow, hk⟩ := Lib.lowest_bit 64 x h0 (by omega)
  obtain ⟨hi, htab⟩ := Lib.deBruijn64_at _ hk
  have hcell := hT _ hi
  rw [htab] at hcell
  have cc := tz64_core x _ _ w (by simp; omega) (tz64_key x _ (by omega) h0 hlow) hi hk hcell
  clear hcell htab hlow hT
  have hw : IntKind.u64.wrap (x : Int) = (x : Int) := by rw [IntKind.wrap_u64]; omega
  go_enter Tryd.func66, Tryd.ntmps66
  go_wp2_with (go_at_call 75; refine cc.mono ?_; rintro e w' ⟨rfl, rfl⟩)
  go_ret
  exact ⟨rfl, rfl⟩

theorem ones_lit (x k : Int) (h : (x = 3 ∧ k = 2) ∨ (x = 5 ∧ k = 2) ∨ (x = 7 ∧ k = 3) ∨ (x = 9 ∧ k = 2) ∨ (x = 15 ∧ k = 4) ∨ (x = 17 ∧ k = 2) ∨ (x = 21 ∧ k = 3) ∨ (x = 31 ∧ k = 5) ∨ (x = 33 ∧ k = 2) ∨ (x = 63 ∧ k = 6) ∨ (x = 65 ∧ k = 2) ∨ (x = 73 ∧ k = 3) ∨ (x = 85 ∧ k = 4) ∨ (x = 127 ∧ k = 7)) (w : World) :
    Calls Tryd.prog 41 #[.int .u64 x] w fun e w' => e = .returned (.int .i64 k) ∧ w = w' := by
  rcases h with ⟨rfl, rfl⟩ | ⟨rfl, rfl⟩ | ⟨rfl, rfl⟩ | ⟨rfl, rfl⟩ | ⟨rfl, rfl⟩ | ⟨rfl, rfl⟩ | ⟨rfl, rfl⟩ | ⟨rfl, rfl⟩ | ⟨rfl, rfl⟩ | ⟨rfl, rfl⟩ | ⟨rfl, rfl⟩ | ⟨rfl, rfl⟩ | ⟨rfl, rfl⟩ | ⟨rfl, rfl⟩
  all_goals
    go_enter Tryd.func41, Tryd.ntmps41
    go_wp2
    go_ret
    exact ⟨by kernel_rfl, rfl⟩

end Go.Proofs.YtakjlfcgciglgaaDoor
