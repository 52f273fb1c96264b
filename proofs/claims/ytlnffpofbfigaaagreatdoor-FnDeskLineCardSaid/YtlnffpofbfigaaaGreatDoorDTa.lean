/-
  The text of a deed: numbers of one digit as texts, where the words of deeds lie, impl's namesOk and DeedText.
-/
import Derived.Test.YtlnffpofbfigaaaGreatDoorFTree
import Derived.Test.YtlnffpofbfigaaaGreatDoorDSpec
import Derived.Test.YtlnffpofbfigaaaGreatDoorDeskR
import Derived.Laws.IdiomStrings
namespace Go.Proofs.YtlnffpofbfigaaaGreatDoor
open Go.RowKit

def oneD (k : Int) : List UInt8 := [UInt8.ofNat (48 + k.toNat)]
theorem ten9 {k : Int} (h : inB k 0 9 = true) : k = 0 ∨ k = 1 ∨ k = 2 ∨ k = 3 ∨ k = 4 ∨ k = 5 ∨ k = 6 ∨ k = 7 ∨ k = 8 ∨ k = 9 := by have := inB_of h; omega
theorem retS {a b : ByteArray} (h : a = b) : Ending.returned (.string a) = .returned (.string b) := by rw [h]

theorem small9_any (k : Int) (h : inB k 0 9 = true) (w : World) :
    Calls Tryz.prog 166 #[.int .i64 k] w fun e w' => e = .returned (.string (bs (oneD k))) ∧ w = w' := by
  rcases ten9 h with rfl | rfl | rfl | rfl | rfl | rfl | rfl | rfl | rfl | rfl
  all_goals
    clear h
    go_enter Tryz.func166, Tryz.ntmps166
    go_wp2
    go_ret
    exact ⟨retS (by decide), rfl⟩

theorem ito9_any (k : Int) (h : inB k 0 9 = true) (w : World) :
    Calls Tryz.prog 54 #[.int .i64 k] w fun e w' => e = .returned (.string (bs (oneD k))) ∧ w = w' := by
  have hb := inB_of h
  go_enter Tryz.func54, Tryz.ntmps54
  go_wp2_with (first | (go_at_call 166; refine (small9_any k h _).mono ?_; rintro e w' ⟨rfl, rfl⟩) | go_in)
  go_ret
  exact ⟨rfl, rfl⟩

/-- The words of deeds lie as laid. -/
def WdAt (w : World) : Prop := 0 < w.heap.size ∧ ∀ i, i < 7 → w.cell? ⟨0, i, none⟩ = some (.string (bs (wordsL.getD i [])))
theorem WdAt.grown {w w' : World} (h : WdAt w) (hg : w.grownBy w' none) : WdAt w' :=
  ⟨Nat.lt_of_lt_of_le h.1 hg.size, fun i hi => (World.cell?_of_block (w := w) (hg.block _ h.1 (by simp))).trans (h.2 i hi)⟩
structure WdF (w : World) : Prop where
  c0 : w.cell? ⟨0, 0, none⟩ = some (.string ⟨#[99, 104, 97, 105, 110]⟩)
  c1 : w.cell? ⟨0, 1, none⟩ = some (.string ⟨#[115, 97, 121]⟩)
  c2 : w.cell? ⟨0, 2, none⟩ = some (.string ⟨#[110, 111, 116]⟩)
  c3 : w.cell? ⟨0, 3, none⟩ = some (.string ⟨#[116, 105, 109, 101, 115]⟩)
  c4 : w.cell? ⟨0, 4, none⟩ = some (.string ⟨#[105, 102]⟩)
  c5 : w.cell? ⟨0, 5, none⟩ = some (.string ⟨#[98, 97, 115, 105, 99]⟩)
  c6 : w.cell? ⟨0, 6, none⟩ = some (.string ⟨#[98, 97, 99, 107]⟩)
theorem WdAt.facts {w : World} (h : WdAt w) : WdF w := ⟨h.2 0 (by decide), h.2 1 (by decide), h.2 2 (by decide), h.2 3 (by decide), h.2 4 (by decide), h.2 5 (by decide), h.2 6 (by decide)⟩

/-- Whether a deed names steps and a formula only where its kind does. -/
def namB (a : Dd) : Bool :=
  if a.1 = 0 then a.2.2.isEmpty else if a.1 = 1 ∨ a.1 = 3 ∨ a.1 = 4 then a.2.1 == 0 else a.2.1 == 0 && a.2.2.isEmpty
theorem empty_bs {t : List UInt8} (ht : t ≠ []) : (bs t).toList.isEmpty = false := by
  rw [ByteArray.toList_eq]
  cases t with
  | nil => exact absurd rfl ht
  | cons c t => rfl
/-- A kind, as a switch over it tells it. -/
theorem kind_ways (k : Int) : k = 0 ∨ k = 1 ∨ k = 2 ∨ k = 3 ∨ k = 4 ∨ k = 5 ∨ k = 6 ∨ (k ≠ 0 ∧ k ≠ 1 ∧ k ≠ 2 ∧ k ≠ 3 ∧ k ≠ 4 ∧ k ≠ 5 ∧ k ≠ 6) := by omega
structure OtherK (k : Int) : Prop where
  d0 : (k == 0) = false
  d1 : (k == 1) = false
  d2 : (k == 2) = false
  d3 : (k == 3) = false
  d4 : (k == 4) = false
  d5 : (k == 5) = false
  d6 : (k == 6) = false
theorem other_k {k : Int} (h : k ≠ 0 ∧ k ≠ 1 ∧ k ≠ 2 ∧ k ≠ 3 ∧ k ≠ 4 ∧ k ≠ 5 ∧ k ≠ 6) : OtherK k :=
  ⟨beq_false_of_ne h.1, beq_false_of_ne h.2.1, beq_false_of_ne h.2.2.1, beq_false_of_ne h.2.2.2.1, beq_false_of_ne h.2.2.2.2.1, beq_false_of_ne h.2.2.2.2.2.1, beq_false_of_ne h.2.2.2.2.2.2⟩

set_option maxHeartbeats 1600000 in
theorem nam_text (k n : Int) (t : List UInt8) (hk : k = 0) (w : World) :
    Calls Tryz.prog 53 #[ddV (k, n, t)] w fun e w' => e = .returned (.bool t.isEmpty) ∧ w.grownBy w' none := by
  subst hk
  unfold ddV
  by_cases ht : t = []
  · subst ht
    rw [show bs ([] : List UInt8) = ⟨#[]⟩ from rfl]
    go_enter Tryz.func53, Tryz.ntmps53
    go_wp2
    go_ret
    exact ⟨rfl, World.grownBy_alloc _ _ none⟩
  · have he := empty_bs ht
    have h2 : t.isEmpty = false := by cases t with | nil => exact absurd rfl ht | cons _ _ => rfl
    go_enter Tryz.func53, Tryz.ntmps53
    go_wp2
    go_ret
    rw [h2]
    exact ⟨rfl, World.grownBy_alloc _ _ none⟩
set_option maxHeartbeats 1600000 in
theorem nam_num (k n : Int) (t : List UInt8) (hk : k = 1 ∨ k = 3 ∨ k = 4) (w : World) :
    Calls Tryz.prog 53 #[ddV (k, n, t)] w fun e w' => e = .returned (.bool (n == 0)) ∧ w.grownBy w' none := by
  unfold ddV
  rcases hk with rfl | rfl | rfl
  all_goals
    go_enter Tryz.func53, Tryz.ntmps53
    go_wp2
    go_ret
    exact ⟨rfl, World.grownBy_alloc _ _ none⟩
set_option maxHeartbeats 1600000 in
theorem nam_both (k n : Int) (t : List UInt8) (h0 : (k == 0) = false) (h1 : (k == 1) = false) (h3 : (k == 3) = false) (h4 : (k == 4) = false) (w : World) :
    Calls Tryz.prog 53 #[ddV (k, n, t)] w fun e w' => e = .returned (.bool (n == 0 && t.isEmpty)) ∧ w.grownBy w' none := by
  unfold ddV
  by_cases hn : n = 0
  · subst hn
    by_cases ht : t = []
    · subst ht
      rw [show bs ([] : List UInt8) = ⟨#[]⟩ from rfl]
      go_enter Tryz.func53, Tryz.ntmps53
      go_wp2
      go_ret
      exact ⟨rfl, World.grownBy_alloc _ _ none⟩
    · have he := empty_bs ht
      have h2 : t.isEmpty = false := by cases t with | nil => exact absurd rfl ht | cons _ _ => rfl
      go_enter Tryz.func53, Tryz.ntmps53
      go_wp2
      go_ret
      rw [h2]
      exact ⟨rfl, World.grownBy_alloc _ _ none⟩
  · have hn2 : (n == 0) = false := beq_false_of_ne hn
    go_enter Tryz.func53, Tryz.ntmps53
    go_wp2
    go_ret
    rw [hn2]
    exact ⟨rfl, World.grownBy_alloc _ _ none⟩

end Go.Proofs.YtlnffpofbfigaaaGreatDoor
