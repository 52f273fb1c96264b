/-
  Deeds counted and copied; desks with rows marked and read again.
-/
import Derived.Test.YtnkebgkocpeonaaDX7
import Derived.Test.YtnkebgkocpeonaaDX4
import Derived.Test.YtnkebgkocpeonaaDDraw
namespace Go.Proofs.Ytnkebgkocpeonaa
open Go.RowKit

set_option maxHeartbeats 1000000 in
theorem szDeed_any (n k left : Int) (s : ByteArray) (w : World) (hl : 0 ≤ left ∧ left ≤ 1048576) (hs : s.size ≤ maxLen) :
    Calls Try.prog 39 #[.agg #[.int .i64 n, .int .i64 k, .string s], .int .i64 left] w fun e w' => e = .returned (.int .i64 (if (s.size : Int) ≤ left then left - s.size else -1)) ∧ w.grownBy w' none := by
  have hg := World.grownBy_alloc w (.cells #[.int .i64 n, .int .i64 k, .string s] 61) none
  unfold maxLen at hs
  have hw : IntKind.i64.wrap (left - (s.size : Int)) = left - (s.size : Int) := IntWalk.i64_in _ (by omega)
  have hw2 : wrap64 (left - (s.size : Int)) = left - (s.size : Int) := by unfold wrap64; omega
  by_cases h : (s.size : Int) ≤ left
  · rw [if_pos h]
    go_enter Try.func39, Try.ntmps39
    go_wp2
    go_ret
    exact ⟨rfl, hg⟩
  · rw [if_neg h]
    go_enter Try.func39, Try.ntmps39
    go_wp2
    go_ret
    exact ⟨rfl, hg⟩

set_option maxHeartbeats 1000000 in
theorem toDeed_any (n k : Int) (s : ByteArray) (w : World) :
    Calls Try.prog 40 #[.agg #[.int .i64 n, .int .i64 k, .string s]] w fun e w' => e = .returned (.agg #[.int .i64 n, .int .i64 k, .string s]) ∧ w.grownBy w' none := by
  go_enter Try.func40, Try.ntmps40
  go_wp2
  exact bodyPost_ret (v := .agg #[.int .i64 n, .int .i64 k, .string s]) (resDd rfl _ rfl ((CellsAt.second w _ _ _).grown (World.grownBy_alloc _ _ none))) rfl ⟨rfl, made3 _ _ _ _⟩

set_option maxHeartbeats 1000000 in
theorem markLds_zero (a : Option Addr) (cap : Nat) (k : Int) (w : World) :
    Calls Try.prog 74 #[.slice a 0 cap, .int .i64 k] w fun e w' => e = .returned (.int .i64 k) ∧ w = w' := by
  go_enter Try.func74, Try.ntmps74
  go_wp2
  go_loopw [1, 5] (fun kv iv wr => kv = .int .i64 k ∧ iv = .int .i64 0 ∧ w = wr) (fun _ _ _ => 0)
  case atStart => exact ⟨rfl, rfl, rfl⟩
  case round =>
    obtain ⟨rfl, rfl, rfl⟩ := hrel
    go_wp2
    go_ret
    exact ⟨rfl, rfl⟩

/-- What is left of a row that was marked: its pairs; nothing else changed but its own block. -/
def MarkedD (a : Option Addr) (k n : Nat) (w w' : World) : Prop := LdsAt w' a (mkRow k n) ∧ ∃ row : Option Nat, (∀ g, row = some g → 0 < n ∧ ∃ x, a = some x ∧ x.block = g) ∧ w.grownBy w' row

set_option maxHeartbeats 1000000 in
theorem markDk_any (m : Int) (t : ByteArray) (k base cap : Nat) (a : Option Addr) (xs : List Ld) (hk : 0 < k ∧ k ≤ 10000000) (hn : xs.length ≤ 10000000) (w : World) (h : OwnL w base a xs) :
    Calls Try.prog 37 #[.agg #[.int .i64 m, .string t, .slice a xs.length cap], .int .i64 k] w fun e w' => e = .returned (.int .i64 ((k + 2 * xs.length : Nat) : Int)) ∧ MarkedD a k xs.length w w' := by
  have h2 := h.kept (World.grownBy_alloc w (.cells #[.int .i64 m, .string t, .slice a xs.length cap] 31) none)
  have G0 := Lib.hid (fun row => World.grownBy_alloc w (.cells #[.int .i64 m, .string t, .slice a xs.length cap] 31) row)
  have cm : ∀ W, OwnL W base a xs → Calls Try.prog 74 #[.slice a xs.length cap, .int .i64 k] W fun e w' => e = .returned (.int .i64 ((k + 2 * xs.length : Nat) : Int)) ∧ MarkedD a k xs.length W w' := by
    intro W hW
    by_cases h0 : xs = []
    · subst h0
      refine (markLds_zero a cap k W).mono ?_
      rintro e w' ⟨rfl, rfl⟩
      exact ⟨by simp, LdsAt.nil _ _, none, by simp, grownBy_refl _ _⟩
    · obtain ⟨g, off, cur, rfl, hb, hg, hc⟩ := hW.2.resolve_left h0
      have hpos : 0 < xs.length := List.length_pos_iff.2 h0
      refine (markLds_any k xs.length g off cap cur hk hn W hg ⟨fun j hj => absurd hj (by omega), fun j _ hj => ⟨_, _, hc j hj⟩⟩).mono ?_
      rintro e w' ⟨cur', rfl, h1, h2, h3⟩
      refine ⟨rfl, ?_, some g, fun q hq => ?_, h3⟩
      · refine OwnL.at (base := 0) ⟨by rw [mkRow_len]; exact hW.1, .inr ⟨g, off, cur', rfl, Nat.zero_le _, h1, fun i hi => ?_⟩⟩
        rw [mkRow_len] at hi
        rw [mkRow_at k _ i hi]
        exact h2.1 i hi
      · cases hq
        exact ⟨hpos, _, rfl, rfl⟩
  clear h
  go_enter Try.func37, Try.ntmps37
  go_wp2_with (first | (go_at_call 74; refine (cm _ h2).mono ?_; rintro e w' ⟨rfl, hM⟩))
  go_ret
  obtain ⟨row, hr, hg⟩ := hM.2
  exact ⟨rfl, hM.1, row, hr, grownBy_trans (G0.out _) hg⟩

set_option maxHeartbeats 1000000 in
theorem heldDk_any (m : Int) (t : ByteArray) (k n cap : Nat) (a : Option Addr) (hk : 0 < k ∧ k ≤ 10000000) (hn : n ≤ 10000000) (w : World) (h : LdsAt w a (mkRow k n)) :
    Calls Try.prog 38 #[.agg #[.int .i64 m, .string t, .slice a n cap], .int .i64 k] w fun e w' => e = .returned (.int .i64 ((k + 2 * n : Nat) : Int)) ∧ w.grownBy w' none := by
  have g0 := World.grownBy_alloc w (.cells #[.int .i64 m, .string t, .slice a n cap] 31) none
  have h2 := h.grown g0
  have hp : ¬ ((k + 2 * n : Nat) : Int) < 0 := by omega
  clear h
  go_enter Try.func38, Try.ntmps38
  go_wp2_with (first | (go_at_call 75; refine (heldLds_any k n cap a hk hn _ h2).mono ?_; rintro e w' ⟨rfl, hM⟩))
  all_goals go_ret
  all_goals exact ⟨rfl, grownBy_trans g0 hM⟩

end Go.Proofs.Ytnkebgkocpeonaa
