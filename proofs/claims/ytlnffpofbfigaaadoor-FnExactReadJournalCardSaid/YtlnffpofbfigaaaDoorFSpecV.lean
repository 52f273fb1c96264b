/-
  The model's ValueAt: l4Value by induction on the tree whose text it is given. No condition.
-/
import Derived.Test.YtlnffpofbfigaaaDoorFSpec
import Derived.WalkSpells
namespace Go.Proofs.YtlnffpofbfigaaaDoor
open Go.RowKit

theorem idx0_run {s : ByteArray} {c : UInt8} {r : List UInt8} (h : bl s = c :: r) (w : World) :
    (Instr.index 9 (.string s) (.int .i64 0)).run Tryd.prog w = .ok (.int .u8 (c.toNat : Int)) w := idx_run (p := 0) h w

theorem bl_extract (s : ByteArray) (a b : Nat) : bl (s.extract a b) = ((bl s).drop a).take (b - a) := Lib.extract_data s a b

/-- The text of a pair: its parts, and where its sign stands. -/
theorem bin_parts {s : ByteArray} {g : Sg} {x y : Tr} (h : bl s = (Tr.bin g x y).txt) :
    ∃ m : Nat, m = 1 + x.txt.length ∧ s.size = m + 1 + y.txt.length + 1 ∧ (bl s).drop 1 = x.txt ++ (g.byte :: (y.txt ++ [41])) ∧ (bl s).drop m = g.byte :: (y.txt ++ [41]) ∧
      bl (s.extract 1 m) = x.txt ∧ bl (s.extract (m + 1) (s.size - 1)) = y.txt ∧ m + (g.byte :: (y.txt ++ [41])).length = s.size ∧ 1 ≤ x.txt.length ∧ 1 ≤ y.txt.length := by
  have hx := txt_pos x
  have hy := txt_pos y
  have hz : s.size = 1 + x.txt.length + 1 + y.txt.length + 1 := by rw [bl_size, h, bin_len]; omega
  have h1 : (bl s).drop 1 = x.txt ++ (g.byte :: (y.txt ++ [41])) := by rw [h]; rfl
  have hm : (bl s).drop (1 + x.txt.length) = g.byte :: (y.txt ++ [41]) := by rw [← List.drop_drop, h1]; simp
  refine ⟨1 + x.txt.length, rfl, hz, h1, hm, ?_, ?_, ?_, hx, hy⟩
  · rw [bl_extract, h1, Nat.add_sub_cancel_left]; simp
  · rw [bl_extract, drop_tail hm, hz]
    have : 1 + x.txt.length + 1 + y.txt.length + 1 - 1 - (1 + x.txt.length + 1) = y.txt.length := by omega
    rw [this]; simp
  · simp; omega

theorem bin_end {s : ByteArray} {g : Sg} {x y : Tr} (h : bl s = (Tr.bin g x y).txt) (hs : s.size ≤ 1048576) {m : Nat} (hm : m = 1 + x.txt.length) (w : World) :
    Calls Tryd.prog 29 #[.string s, .int .i64 1] w fun e w' => e = .returned (.int .i64 (m : Int)) ∧ w = w' := by
  obtain ⟨m', hm', hz, h1, h2, _, _, h5, _⟩ := bin_parts h
  obtain rfl : m' = m := by omega
  exact (ends_at s.size).yes (p := 1) (i := 1) hs rfl (by omega) (t := x) (r := g.byte :: (y.txt ++ [41])) (by rw [h1]; exact prs_full x _ _ (by omega)) h5

end Go.Proofs.YtlnffpofbfigaaaDoor
