/-
  Slices of truths and a list of them in memory, each the call's own: what a write to the one leaves of the others.
-/
import Derived.Test.YthfikgaghinfbaaLFor
namespace Go.Proofs.Ythfikgaghinfbaa
open Go.RowKit

theorem infoBool : (Try.prog.info? 4).map (fun i => (i.zero, i.size, i.bytes)) = some (some (.bool false), 1, 1) := by kernel_rfl
theorem infoBools : (Try.prog.info? 61).map (fun i => (i.zero, i.size, i.bytes)) = some (some (.slice none 0 0), 1, 24) := by kernel_rfl
theorem lown_typed {w : World} {b1 b2 : Nat} {e1 e2 : TypeId} {v1 v2 : Value} {n1 n2 : Nat} {x1 x2 : List Value} (h1 : w.ownsRow b1 e1 1 v1 n1 x1) (h2 : w.ownsRow b2 e2 1 v2 n2 x2) (he : e1 ≠ e2) : v1.ownBlock = none ∨ v1.ownBlock ≠ v2.ownBlock := by
  rcases h1.2 with ⟨rfl, _⟩ | ⟨g1, c1, u1, rfl, _, hg1, _⟩
  · exact .inl rfl
  · right
    rcases h2.2 with ⟨rfl, _⟩ | ⟨g2, c2, u2, rfl, _, hg2, _⟩
    · intro e; cases e
    · intro e
      have e' : some g1 = some g2 := e
      cases e'
      rw [hg1] at hg2
      cases hg2
      exact he rfl
theorem lown_kept {w w' : World} {base : Nat} {e : TypeId} {v : Value} {n : Nat} {xs : List Value} (ho : w.ownsRow base e 1 v n xs) (hg : w.grownBy w' none) : w'.ownsRow base e 1 v n xs := World.ownsRow.kept ho hg (by cases v.ownBlock <;> simp)
theorem lown_below {w w' : World} {base S : Nat} {e : TypeId} {v : Value} {n : Nat} {xs : List Value} (ho : w.ownsRow base e 1 v n xs) (hb : S < base) (hg : w.grownBy w' (some S)) : w'.ownsRow base e 1 v n xs :=
  World.ownsRow.kept ho hg (.inr fun e => by have := World.ownsRow.lt ho S e; omega)
theorem lown_mono {w : World} {base b2 : Nat} {e : TypeId} {v : Value} {n : Nat} {xs : List Value} (h : w.ownsRow base e 1 v n xs) (hb : b2 ≤ base) : w.ownsRow b2 e 1 v n xs := by
  refine ⟨h.1, ?_⟩
  rcases h.2 with ⟨h1, h2⟩ | ⟨g, c, u, h1, h2, h3⟩
  · exact .inl ⟨h1, h2⟩
  · exact .inr ⟨g, c, u, h1, Nat.le_trans hb h2, h3⟩

/-- The truths of so many questions. -/
def bitsV (N L q : Nat) : List Value := (List.range (pw N L)).map fun c => Value.bool (svB N L q c)
theorem bitsV_len (N L q : Nat) : (bitsV N L q).length = pw N L := by simp [bitsV]
theorem bitsV_at (N L q : Nat) {c : Nat} (hc : c < pw N L) : (bitsV N L q)[c]? = some (.bool (svB N L q c)) := by
  unfold bitsV
  rw [List.getElem?_map, List.getElem?_range hc]
  rfl
theorem bitsV_is {N L q : Nat} {vs : List Value} (hl : vs.length = pw N L) (h : ∀ c, c < pw N L → vs[c]? = some (.bool (svB N L q c))) : vs = bitsV N L q := by
  refine List.ext_getElem? fun c => ?_
  by_cases hc : c < pw N L
  · rw [h c hc, bitsV_at N L q hc]
  · rw [List.getElem?_eq_none (by omega), List.getElem?_eq_none (by rw [bitsV_len]; omega)]
/-- Such a slice, the call's own. -/
def RowB (w : World) (base N L q : Nat) (v : Value) : Prop := ∃ g, v = .slice (some ⟨g, 0, none⟩) (pw N L) (pw N L) ∧ w.ownsRow base 4 1 v (pw N L) (bitsV N L q)
theorem RowB.kept {w w' : World} {base N L q : Nat} {v : Value} (h : RowB w base N L q v) (hg : w.grownBy w' none) : RowB w' base N L q v := by
  obtain ⟨g, h1, h2⟩ := h
  exact ⟨g, h1, lown_kept h2 hg⟩
theorem RowB.below {w w' : World} {base N L q S : Nat} {v : Value} (h : RowB w base N L q v) (hb : S < base) (hg : w.grownBy w' (some S)) : RowB w' base N L q v := by
  obtain ⟨g, h1, h2⟩ := h
  exact ⟨g, h1, lown_below h2 hb hg⟩
theorem RowB.mono {w : World} {base b2 N L q : Nat} {v : Value} (h : RowB w base N L q v) (hb : b2 ≤ base) : RowB w b2 N L q v := by
  obtain ⟨g, h1, h2⟩ := h
  exact ⟨g, h1, lown_mono h2 hb⟩
theorem RowB.beside {w w' : World} {base N L q b2 : Nat} {v v2 : Value} {e2 : TypeId} {n2 : Nat} {x2 : List Value} (h : RowB w base N L q v) (h2 : w.ownsRow b2 e2 1 v2 n2 x2) (he : 4 ≠ e2) (hg : w.grownBy w' v2.ownBlock) : RowB w' base N L q v := by
  obtain ⟨g, hv, h3⟩ := h
  exact ⟨g, hv, World.ownsRow.kept h3 hg (lown_typed h3 h2 he)⟩
theorem RowB.bits {w : World} {base N L q : Nat} {v : Value} (h : RowB w base N L q v) (h1 : 1 ≤ pw N L) : ∃ g, v = .slice (some ⟨g, 0, none⟩) (pw N L) (pw N L) ∧ BitsAt w g 0 (pw N L) (svB N L q) := by
  obtain ⟨g, rfl, h2⟩ := h
  have hc : ∀ c, c < pw N L → w.cell? ⟨g, 0 + c, none⟩ = some (.bool (svB N L q c)) := fun c hc => by
    rw [Nat.zero_add, World.ownsRow.cellAt h2 c (by omega), bitsV_at N L q hc]
  exact ⟨g, rfl, World.block_lt_of_cell? w _ (hc 0 (by omega)), hc⟩
/-- A list of such slices: one for each number of questions below r. -/
def ListB (w : World) (base N L r : Nat) (v : Value) : Prop :=
  ∃ vals, w.ownsRow base 61 1 v r vals ∧ ∀ i, i < r → ∃ u, vals[i]? = some u ∧ RowB w base N L i u
theorem ListB.nilL (w : World) (base N L : Nat) : ListB w base N L 0 (.slice none 0 0) := ⟨[], World.ownsRow_nil _ _ _ _, fun i hi => absurd hi (by omega)⟩
theorem ListB.kept {w w' : World} {base N L r : Nat} {v : Value} (h : ListB w base N L r v) (hg : w.grownBy w' none) : ListB w' base N L r v := by
  obtain ⟨vals, h1, h2⟩ := h
  refine ⟨vals, lown_kept h1 hg, fun i hi => ?_⟩
  obtain ⟨u, h3, h4⟩ := h2 i hi
  exact ⟨u, h3, h4.kept hg⟩
theorem ListB.below {w w' : World} {base N L r S : Nat} {v : Value} (h : ListB w base N L r v) (hb : S < base) (hg : w.grownBy w' (some S)) : ListB w' base N L r v := by
  obtain ⟨vals, h1, h2⟩ := h
  refine ⟨vals, lown_below h1 hb hg, fun i hi => ?_⟩
  obtain ⟨u, h3, h4⟩ := h2 i hi
  exact ⟨u, h3, h4.below hb hg⟩
theorem ListB.mono {w : World} {base b2 N L r : Nat} {v : Value} (h : ListB w base N L r v) (hb : b2 ≤ base) : ListB w b2 N L r v := by
  obtain ⟨vals, h1, h2⟩ := h
  refine ⟨vals, lown_mono h1 hb, fun i hi => ?_⟩
  obtain ⟨u, h3, h4⟩ := h2 i hi
  exact ⟨u, h3, h4.mono hb⟩
/-- One slice more. -/
theorem ListB.more {w w' : World} {base N L r : Nat} {v v' u : Value} {vals : List Value} (h1 : w.ownsRow base 61 1 v r vals) (h2 : ∀ i, i < r → ∃ u, vals[i]? = some u ∧ RowB w base N L i u) (hu : RowB w base N L r u)
    (ho : w'.ownsRow base 61 1 v' (r + 1) (vals ++ [u])) (hg : w.grownBy w' v.ownBlock) : ListB w' base N L (r + 1) v' := by
  have hl := h1.1
  have ne : 4 ≠ 61 := by decide
  refine ⟨vals ++ [u], ho, fun i hi => ?_⟩
  by_cases e : i < r
  · obtain ⟨x, h3, h4⟩ := h2 i e
    refine ⟨x, by rw [List.getElem?_append_left (by omega)]; exact h3, ?_⟩
    exact h4.beside h1 ne hg
  · obtain rfl : i = r := by omega
    refine ⟨u, by rw [List.getElem?_append_right (by omega), show i - vals.length = 0 by omega]; rfl, ?_⟩
    exact hu.beside h1 ne hg
/-- The list's shape, and where its slice i lies. -/
theorem ListB.at {w : World} {base N L r : Nat} {v : Value} (h : ListB w base N L r v) (h1 : 1 ≤ pw N L) {i : Nat} (hi : i < r) :
    ∃ g c gi, v = .slice (some ⟨g, 0, none⟩) r c ∧ w.cell? ⟨g, i, none⟩ = some (.slice (some ⟨gi, 0, none⟩) (pw N L) (pw N L)) ∧ BitsAt w gi 0 (pw N L) (svB N L i) ∧ base ≤ gi := by
  obtain ⟨vals, h1', h2⟩ := h
  obtain ⟨u, h3, h4⟩ := h2 i hi
  have h5 := h4.bits h1
  obtain ⟨gi, rfl, h6⟩ := h5
  have hb : base ≤ gi := by
    obtain ⟨g, _, h7⟩ := h4
    exact (World.ownsRow.lt h7 gi rfl).1
  rcases h1'.2 with ⟨rfl, h0⟩ | ⟨g, c, cur, rfl, _, hg, _⟩
  · omega
  · exact ⟨g, c, gi, rfl, by rw [World.ownsRow.cellAt h1' i (by omega), h3], h6, hb⟩
theorem ListB.shape {w : World} {base N L r : Nat} {v : Value} (h : ListB w base N L r v) : ∃ a c, v = .slice a r c := by
  obtain ⟨vals, h1, _⟩ := h
  rcases h1.2 with ⟨rfl, h0⟩ | ⟨g, c, cur, rfl, _⟩
  · exact ⟨_, 0, by rw [h0]⟩
  · exact ⟨_, c, rfl⟩
/-- What lies below the base is as it lay, but for one block. -/
structure ButS (w w' : World) (base S : Nat) : Prop where
  os : w'.os = w.os
  tape : w'.tape = w.tape
  output : w'.output = w.output
  size : w.heap.size ≤ w'.heap.size
  block : ∀ k, k < base → k ≠ S → w'.heap[k]? = w.heap[k]?
theorem ButS.cell {w w' : World} {base S B o : Nat} (h : ButS w w' base S) (hb : B < base) (hs : B ≠ S) {v : Value} (hc : w.cell? ⟨B, o, none⟩ = some v) : w'.cell? ⟨B, o, none⟩ = some v :=
  (World.cell?_of_block (w := w) (a := ⟨B, o, none⟩) (h.block B hb hs)).trans hc

end Go.Proofs.Ythfikgaghinfbaa
