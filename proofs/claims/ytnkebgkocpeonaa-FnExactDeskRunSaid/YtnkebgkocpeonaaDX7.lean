/-
  Marked rows of pairs read again; whole desks marked and read again.
-/
import Derived.Test.YtnkebgkocpeonaaDX6
namespace Go.Proofs.Ytnkebgkocpeonaa
open Go.RowKit

def HlRelD (k n : Nat) (w : World) (kv iv : Value) (wr : World) : Prop := ∃ i : Nat, i ≤ n ∧ kv = .int .i64 ((k + 2 * i : Nat) : Int) ∧ iv = .int .i64 i ∧ w.grownBy wr none

set_option maxRecDepth 8000 in
set_option maxHeartbeats 2000000 in
theorem heldLds_any (k n cap : Nat) (a : Option Addr) (hk : 0 < k ∧ k ≤ 10000000) (hn : n ≤ 10000000) (w : World) (hx : LdsAt w a (mkRow k n)) :
    Calls Try.prog 75 #[.slice a n cap, .int .i64 k] w fun e w' => e = .returned (.int .i64 ((k + 2 * n : Nat) : Int)) ∧ w.grownBy w' none := by
  have HX := Lib.hid hx
  clear hx
  go_enter Try.func75, Try.ntmps75
  go_wp2
  go_loopw [1, 5] (fun kv iv wr => HlRelD k n w kv iv wr) (fun _ iv _ => n - (intOf iv).toNat)
  case atStart => exact ⟨0, by omega, by simp, rfl, grownBy_refl _ _⟩
  case round =>
    obtain ⟨i, hi, rfl, rfl, hgr⟩ := hrel
    have Hgr := Lib.hid hgr
    clear hgr
    by_cases hlt : i < n
    · rcases (HX.out.grown Hgr.out).2 with h0 | ⟨b, off, rfl, hb, hc⟩
      · have := congrArg List.length h0; rw [mkRow_len] at this; simp at this; omega
      obtain ⟨c0, c1⟩ := hc i (by rw [mkRow_len]; exact hlt)
      rw [mkRow_at k n i hlt] at c0 c1
      obtain ⟨K, hK⟩ : ∃ K, K = k + 2 * i := ⟨_, rfl⟩
      have hp : mkP k i = ((K : Int), mtx (K + 1)) := by rw [hK]; rfl
      rw [hp] at c0 c1
      have cm : ∀ w, Calls Try.prog 77 #[.int .i64 ((K : Int) + 1)] w fun e w' => e = .returned (.string (bs (mtx (K + 1)))) ∧ w.grownBy w' none := fun w => markText_any (K + 1) (by omega) (by omega) w
      have hKb : K ≤ 100000000 := by omega
      rw [← hK]
      have HK := Lib.hid hK
      have HC := Lib.hid c1
      clear hc hb hK hp
      generalize bs (mtx (K + 1)) = T at *
      go_wp2_with fail
      go_region_with (go_at_call 77; refine (cm _).mono ?_; rintro e w2 ⟨rfl, hg2⟩; have c1' := (drew_grown hg2).cell HC.out (by simp))
      all_goals go_wp2_with fail
      all_goals go_roundw
      all_goals first | (simp [intOf]; omega) | exact ⟨i + 1, by omega, by have := HK.out; congr 1; omega, by go_num, grownBy_trans Hgr.out (drew_grown hg2)⟩
    · obtain rfl : i = n := by omega
      go_wp2
      go_ret
      exact ⟨rfl, Hgr.out⟩

end Go.Proofs.Ytnkebgkocpeonaa
