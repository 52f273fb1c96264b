/-
  The model's MovesOf. No condition.
-/
import Derived.Test.YtakjlfcgciglgaaDoorASpec
import Derived.Test.YtakjlfcgciglgaaDoorRSpec
namespace Go.Proofs.YtakjlfcgciglgaaDoor
open Go.RowKit

def movI (n : Int) (l : List UInt8) : Int :=
  match fOf l with
  | some t => if inB n 1 6 = true then movU n.toNat t (cub n.toNat) else -1
  | none => -1
theorem movI_n {n : Int} {l : List UInt8} (h : fOf l = none) : movI n l = -1 := by unfold movI; rw [h]
theorem movI_o {n : Int} {l : List UInt8} (h : inB n 1 6 = false) : movI n l = -1 := by unfold movI; rw [h]; cases fOf l <;> rfl
theorem movI_t {N : Nat} {l : List UInt8} {t : Tr} (h : fOf l = some t) (hi : inB N 1 6 = true) : movI N l = movU N t (cub N) := by unfold movI; rw [h]; simp only [hi]; rfl
/-- One place more. -/
theorem movU_skip {N : Nat} (t : Tr) {k : Nat} (hk : k < cub N) (h : tA N k = 0) : movU N t (k + 1) = movU N t k := by
  show (if k / (N + 1) / (N + 1) = 0 then _ else _) = _
  rw [if_pos (by rw [← tA_eq hk]; exact h)]
theorem movU_go {N : Nat} (t : Tr) {k : Nat} (hk : k < cub N) (h : ¬ tA N k = 0) {p q : Int} (hp : atK N t k = p) (hq : t.val N ((tA N k : Int) - 1) (tB N k) (tC N k) = q) :
    movU N t (k + 1) = if gap p q ≤ movU N t k then movU N t k else gap p q := by
  show (if k / (N + 1) / (N + 1) = 0 then _ else _) = _
  rw [if_neg (by rw [← tA_eq hk]; exact h), ← hp, ← hq]
  rfl
def MvRel (N : Nat) (t : Tr) (w : World) (m i : Value) (wr : World) : Prop := ∃ k : Nat, k ≤ cub N ∧ i = .int .i64 k ∧ m = .int .i64 (movU N t k) ∧ w.grownBy wr none

end Go.Proofs.YtakjlfcgciglgaaDoor
