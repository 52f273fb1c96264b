/-
  What lay lies on along a growth of the world: cells. Bytes of two strings put together; the text that BasicOf tells.
-/
import Derived.Test.YtlnffpofbfigaaaGreatDoorFTree
import Derived.Deep.RegionHeld3
import Derived.IntWalk
namespace Go.Proofs.YtlnffpofbfigaaaGreatDoor
open Go.RowKit Go.Maps Go.Joins

theorem cell_grown {w1 w2 : World} {a : Addr} {x : Value} (h : w1.cell? a = some x) (hg : w1.grownBy w2 none) : w2.cell? a = some x :=
  (World.cell?_of_block (hg.block a.block (World.block_lt_of_cell? w1 _ h) (by simp))).trans h

theorem held2 {w0 w1 w2 : World} {a b : Addr} {x y : Value} (h : w1.cell? a = some x ∧ w1.cell? b = some y ∧ w0.grownBy w1 none) (hg : w1.grownBy w2 none) :
    w2.cell? a = some x ∧ w2.cell? b = some y ∧ w0.grownBy w2 none := ⟨cell_grown h.1 hg, cell_grown h.2.1 hg, grownBy_trans h.2.2 hg⟩

theorem bl_app (a b : ByteArray) : bl (a ++ b) = bl a ++ bl b := by unfold bl; simp
def lb (t : Tr) : ByteArray := ⟨t.lim.toArray⟩
theorem bl_lb (t : Tr) : bl (lb t) = t.lim := rfl
theorem lb_size (t : Tr) : (lb t).size ≤ 60 := by rw [bl_size, bl_lb]; exact lim_len t

theorem lb_long {t : Tr} (h : ¬ t.txt.length ≤ 60) : (⟨#[]⟩ : ByteArray) = lb t := by unfold lb; rw [lim_f h]
theorem lb_none {t : Tr} (h : ¬ t.txt.length ≤ 60) : (lb t).toList.isEmpty = true := bl_empty (lim_f h)
theorem lb_some {t : Tr} (h : t.txt.length ≤ 60) : (lb t).toList.isEmpty = false := by
  have p := txt_pos t
  rw [ByteArray.toList_eq]
  show t.lim.isEmpty = false
  rw [lim_t h]
  cases e : t.txt with
  | nil => rw [e] at p; simp at p
  | cons c l => rfl
theorem lb_len {t : Tr} (h : t.txt.length ≤ 60) : (lb t).size = t.txt.length := by rw [bl_size, bl_lb, lim_t h]

theorem lb_fol {t u : Tr} (ht : t.txt.length ≤ 60) (hu : u.txt.length ≤ 60) (h : t.txt.length + u.txt.length + 3 ≤ 60) :
    (⟨#[40]⟩ : ByteArray) ++ lb t ++ ⟨#[62]⟩ ++ lb u ++ ⟨#[41]⟩ = lb (.bin .fol t u) := by
  apply bl_inj
  rw [bl_app, bl_app, bl_app, bl_app, bl_lb, bl_lb, bl_lb, lim_t ht, lim_t hu, lim_t (by rw [fol_len]; exact h)]
  show [40] ++ t.txt ++ [62] ++ u.txt ++ [41] = 40 :: (t.txt ++ 62 :: (u.txt ++ [41]))
  simp
def bbT (l : List UInt8) : ByteArray := ⟨(basT l).toArray⟩

end Go.Proofs.YtlnffpofbfigaaaGreatDoor
