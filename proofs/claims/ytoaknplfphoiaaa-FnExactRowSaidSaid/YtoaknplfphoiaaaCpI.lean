/-
  Copies of slices of integers: laws.toIntS; what a slice of integers that came in is.
-/
import Derived.Test.YtoaknplfphoiaaaRDraw
import Derived.SliceStrings
namespace Go.Proofs.Ytoaknplfphoiaaa
open Go.RowKit

/-- A slice of integers that came in: what lies there. -/
theorem IsRow.ints {w : World} {a : Option Addr} {len cap : Nat} {zs : List Int} (h : IsRow .i64 w a len cap zs) : ∃ xs : List Int, xs.length = len ∧ IntsAt w a xs := by
  by_cases h0 : len = 0
  · subst h0
    exact ⟨[], rfl, by simp, .inl rfl⟩
  · rcases h with ⟨_, h, _⟩ | ⟨x, rfl, h1, h2, h3, h4, _⟩
    · exact absurd h h0
    · obtain ⟨b, off, spot⟩ := x
      have c0 := h4 0 (by omega)
      have hsp : spot = none := by simpa [Addr.add] using World.cell?_spot c0
      subst hsp
      have hl : (zs.take len).length = len := by rw [List.length_take]; omega
      refine ⟨zs.take len, hl, by omega, .inr ⟨b, off, rfl, by simpa [Addr.add] using World.block_lt_of_cell? w _ c0, fun i hi => ?_⟩⟩
      have := h4 i (by omega)
      rw [add_none] at this
      rw [this]
      rw [hl] at hi
      simp [List.getD_eq_getElem?_getD, hi]
def CpiRel (g : Nat) (xs : List Int) (w : World) (i : Value) (wr : World) : Prop :=
  ∃ (k : Nat) (vs : List Value), k ≤ xs.length ∧ i = .int .i64 k ∧ wr.ownsRow w.heap.size 3 1 (.slice (some ⟨g, 0, none⟩) xs.length xs.length) xs.length vs ∧ (∀ j, j < k → vs[j]? = some (.int .i64 (xs.getD j 0))) ∧ w.grownBy wr none
/-- What a copy leaves. -/
def CopyPost (xs : List Int) (w : World) (e : Ending) (w' : World) : Prop :=
  ∃ a cap, e = .returned (.slice a xs.length cap) ∧ IntsAt w' a xs ∧ w.grownBy w' none
theorem own_copied {g : Nat} {xs : List Int} {w wr : World} {vs : List Value} (hm : xs.length ≤ maxLen) (h : wr.ownsRow w.heap.size 3 1 (.slice (some ⟨g, 0, none⟩) xs.length xs.length) xs.length vs) (hx : ∀ j, j < xs.length → vs[j]? = some (.int .i64 (xs.getD j 0))) : IntsAt wr (some ⟨g, 0, none⟩) xs := by
  refine ⟨hm, ?_⟩
  by_cases h0 : xs.length = 0
  · exact .inl (List.length_eq_zero_iff.1 h0)
  · have c0 := World.ownsRow.cellAt h 0 (by omega)
    rw [hx 0 (by omega)] at c0
    refine .inr ⟨g, 0, rfl, World.block_lt_of_cell? wr _ c0, fun i hi => ?_⟩
    have hc := World.ownsRow.cellAt h i (by omega)
    rw [Nat.zero_add, hc, hx i hi]

end Go.Proofs.Ytoaknplfphoiaaa
