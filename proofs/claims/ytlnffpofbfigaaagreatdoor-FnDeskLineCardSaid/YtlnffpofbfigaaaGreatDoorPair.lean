/-
  impl.pairText: the text of two formulas with a sign between them; impl.shortEnough: a text of at most 60 bytes. The sign is one byte, the texts have at most 100000 together.
-/
import Derived.Test.YtlnffpofbfigaaaGreatDoorFCell
import Derived.Test.YtlnffpofbfigaaaGreatDoorPrem
namespace Go.Proofs.YtlnffpofbfigaaaGreatDoor
open Go.RowKit

theorem ptx_any (x n y : ByteArray) (h : x.size + y.size ≤ 100000) (hn : n.size = 1) (w : World) :
    Calls Tryz.prog 136 #[.string x, .string n, .string y] w fun e w' => e = .returned (.string (⟨#[40]⟩ ++ x ++ n ++ y ++ ⟨#[41]⟩)) ∧ w = w' := by
  have m : maxLen = 9223372036854775807 := rfl
  go_enter Tryz.func136, Tryz.ntmps136
  go_wp2_with fail
  go_ret
  exact ⟨rfl, rfl⟩

/-- A tree's text, however long. -/
def tb (t : Tr) : ByteArray := ⟨t.txt.toArray⟩
theorem bl_tb (t : Tr) : bl (tb t) = t.txt := rfl
theorem tb_size (t : Tr) : (tb t).size = t.txt.length := by rw [bl_size, bl_tb]
theorem tb_of {s : ByteArray} {t : Tr} (h : fOf (bl s) = some t) : s = tb t := bl_inj (by rw [(fOf_some h).1]; rfl)
theorem tb_lb {t : Tr} (h : t.txt.length ≤ 60) : tb t = lb t := bl_inj (by rw [bl_tb, bl_lb, lim_t h])
theorem tb_bin (g : Sg) (t u : Tr) : (⟨#[40]⟩ : ByteArray) ++ tb t ++ ⟨#[g.byte]⟩ ++ tb u ++ ⟨#[41]⟩ = tb (.bin g t u) := by
  apply bl_inj
  rw [bl_app, bl_app, bl_app, bl_app, bl_tb, bl_tb, bl_tb]
  show [40] ++ t.txt ++ [g.byte] ++ u.txt ++ [41] = 40 :: (t.txt ++ g.byte :: (u.txt ++ [41]))
  simp

/-- What PowerText and DeducedOf answer. -/
def txV : Option Tr → Value
  | some t => .tuple #[.string (tb t), .bool true]
  | none => .tuple #[.string ⟨#[]⟩, .bool false]

end Go.Proofs.YtlnffpofbfigaaaGreatDoor
