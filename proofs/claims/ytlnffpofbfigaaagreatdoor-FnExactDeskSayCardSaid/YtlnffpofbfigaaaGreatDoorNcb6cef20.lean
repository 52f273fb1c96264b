/-
  A text split at its spaces: the library's strings.Split, by words.
-/
import Derived.Test.YtlnffpofbfigaaaGreatDoorM7609ca6e
import Derived.Test.YtlnffpofbfigaaaGreatDoorM972f736b
import Derived.Test.YtlnffpofbfigaaaGreatDoorNf8fac338
import Derived.Test.YtlnffpofbfigaaaGreatDoorSfd
import Derived.Lib.SplitLaws
namespace Go.Proofs.YtlnffpofbfigaaaGreatDoor
open Go.RowKit

set_option maxRecDepth 8000 in
theorem strIdx_any (l : List UInt8) (c : UInt8) (w : World) :
    Calls Tryz.prog 192 #[.string (bs l), .string ⟨#[c]⟩] w fun e w' => e = .returned (.int .i64 (Lib.indexB (bs l) ⟨#[c]⟩)) ∧ w' = w := by
  have ci := index1_any l c
  generalize Lib.indexB (bs l) ⟨#[c]⟩ = i at *
  generalize bs l = s at *
  go_enter Tryz.func192, Tryz.ntmps192
  go_wp2_with (first | (go_at_call 118; (with_reducible refine (ci _).mono ?_); rintro e w2 ⟨rfl, rfl⟩))
  go_ret
  exact ⟨rfl, rfl⟩

theorem split_cut : ∀ (n : Nat) (l : List UInt8), l.length ≤ n → Lib.splitB ⟨#[32]⟩ 0 (l.count 32) (bs l) = (cutL 32 l).map bs ∧ (cutL 32 l).length = l.count 32 + 1
  | n, l, h => by
    rcases cut_ways 32 l with hm | ⟨t, r, rfl, ht⟩
    · have hc : l.count 32 = 0 := List.count_eq_zero.2 fun k => hm 32 k rfl
      rw [hc, cutL_one hm]
      exact ⟨Lib.splitB_zero _ _ _, rfl⟩
    · have hc : (t ++ 32 :: r).count 32 = r.count 32 + 1 := by
        rw [List.count_append, List.count_cons_self, List.count_eq_zero.2 fun k => ht 32 k rfl]; omega
      have hi : Lib.indexB (bs (t ++ 32 :: r)) ⟨#[32]⟩ = (t.length : Int) := index_hit r ht
      match n, h with
      | 0, h => simp at h
      | n + 1, h =>
        obtain ⟨i1, i2⟩ := split_cut n r (by simp at h; omega)
        rw [hc, Lib.splitB_hit _ _ _ _ t.length hi, cutL_more r ht]
        refine ⟨?_, by rw [List.length_cons, i2]⟩
        rw [List.map_cons, ext_bs, ext_bs, bs_size]
        have e1 : ((t ++ 32 :: r).drop 0).take (t.length + 0 - 0) = t := by simp
        have e2 : ((t ++ 32 :: r).drop (t.length + (⟨#[32]⟩ : ByteArray).size)).take ((t ++ 32 :: r).length - (t.length + (⟨#[32]⟩ : ByteArray).size)) = r := by
          have : (⟨#[32]⟩ : ByteArray).size = 1 := rfl
          rw [this, ← List.drop_drop, List.drop_left]
          exact List.take_of_length_le (by simp only [List.drop_succ_cons, List.drop_zero, List.length_append, List.length_cons]; omega)
        rw [e1, e2, i1]

def WordsAt (w : World) (b : Nat) (ws : List (List UInt8)) : Prop := CellsAt w b (ws.map fun t => Value.string (bs t)).toArray 9
theorem WordsAt.cell {w : World} {b : Nat} {ws : List (List UInt8)} (h : WordsAt w b ws) {i : Nat} {t : List UInt8} (hi : ws[i]? = some t) : w.cell? ⟨b, i, none⟩ = some (.string (bs t)) := CellsAt.cell h (by simp [hi])

set_option maxRecDepth 8000 in
set_option maxHeartbeats 2000000 in
theorem split_any (l : List UInt8) (hl : l.length ≤ 2097152) (w : World) :
    Calls Tryz.prog 131 #[.string (bs l), .string ⟨#[32]⟩] w fun e w' => e = .returned (.slice (some ⟨w.heap.size, 0, none⟩) (cutL 32 l).length (cutL 32 l).length) ∧ WordsAt w' w.heap.size (cutL 32 l) ∧ w.grownBy w' none := by
  obtain ⟨s1, s2⟩ := split_cut _ l (Nat.le_refl _)
  have hz := bs_size l
  have hcb : Lib.countB (bs l) ⟨#[32]⟩ = l.count 32 := Lib.count_one 32 l
  have c := Any.strings_genSplit_core Tryz.lays221 (by kernel_rfl) (bs l) ⟨#[32]⟩ 0 (-1) (l.count 32 + 1) w (by omega) (by decide) (by decide)
    (fun x c hx => by
      have := strIdx_any (bl x) 32 (w.alloc (.cells c (Tryz.lays221_ren.t 9)))
      rw [bs_bl] at this
      exact this)
    ((Any.strings_Count_one Tryz.lays138 (bs l) 32 w).mono fun e w' h => by
      refine ⟨?_, h.2⟩
      rw [h.1, hcb]
      rfl)
    (by decide) (by decide) (by
      rw [if_pos (by decide), hcb]
      have := List.count_le_length (a := (32 : UInt8)) (l := l)
      omega)
  rw [Nat.add_sub_cancel, s1] at c
  have hlen : ((cutL 32 l).map bs).length = l.count 32 + 1 := by rw [List.length_map, s2]
  have e2 : Lib.cellsOf ((cutL 32 l).map bs) (l.count 32 + 1) = (((cutL 32 l).map bs).map Value.string).toArray := by rw [← hlen]; exact Lib.cellsOf_full _
  rw [e2, hlen] at c
  rw [s2]
  have hcells : ((cutL 32 l).map bs).map Value.string = (cutL 32 l).map fun t => Value.string (bs t) := by rw [List.map_map]; rfl
  rw [hcells] at c
  unfold WordsAt
  generalize ((cutL 32 l).map fun t => Value.string (bs t)).toArray = C at *
  generalize l.count 32 + 1 = k at *
  clear s1 s2 hz hcb hlen e2 hcells hl
  generalize bs l = s at *
  go_enter Tryz.func131, Tryz.ntmps131
  go_wp2_with (first | (go_at_call 158; (refine Calls.mono c ?_); rintro e w2 ⟨rfl, hw⟩))
  go_ret
  exact ⟨rfl, CellsAt.new w C _, World.grownBy_alloc _ _ none⟩

end Go.Proofs.YtlnffpofbfigaaaGreatDoor
