/-
  A list of rows in memory, each row and the list the call's own; a row of marks, one for each number. What a write to the one leaves of the others.
-/
import Derived.Test.YtakjlfcgciglgaaDoorMCode
import Derived.Test.YtakjlfcgciglgaaDoorRow
namespace Go.Proofs.YtakjlfcgciglgaaDoor
open Go.RowKit

theorem infoRows : (Tryd.prog.info? 29).map (fun i => (i.zero, i.size, i.bytes)) = some (some (.slice none 0 0), 1, 24) := by kernel_rfl
theorem own_typed {w : World} {b1 b2 : Nat} {e1 e2 : TypeId} {v1 v2 : Value} {n1 n2 : Nat} {x1 x2 : List Value} (h1 : w.ownsRow b1 e1 1 v1 n1 x1) (h2 : w.ownsRow b2 e2 1 v2 n2 x2) (he : e1 ≠ e2) : v1.ownBlock = none ∨ v1.ownBlock ≠ v2.ownBlock := by
  rcases h1.2 with ⟨rfl, _⟩ | ⟨g1, c1, u1, rfl, _, hg1, _⟩
  · exact .inl rfl
  · right
    rcases h2.2 with ⟨rfl, _⟩ | ⟨g2, c2, u2, rfl, _, hg2, _⟩
    · intro e; cases e
    · intro e
      have e' : some g1 = some g2 := e
      cases e'
      rw [hg1] at hg2
      cases hg2
      exact he rfl
theorem own_keptM {w w' : World} {base : Nat} {e : TypeId} {v : Value} {n : Nat} {xs : List Value} (ho : w.ownsRow base e 1 v n xs) (hg : w.grownBy w' none) : w'.ownsRow base e 1 v n xs := World.ownsRow.kept ho hg (by cases v.ownBlock <;> simp)
theorem own_below {w w' : World} {base S : Nat} {e : TypeId} {v : Value} {n : Nat} {xs : List Value} (ho : w.ownsRow base e 1 v n xs) (hb : S < base) (hg : w.grownBy w' (some S)) : w'.ownsRow base e 1 v n xs :=
  World.ownsRow.kept ho hg (.inr fun e => by have := World.ownsRow.lt ho S e; omega)

/-- A row of the call's own. -/
def RowV (w : World) (base N : Nat) (v : Value) (r : List Nat) : Prop :=
  r.length = N + 1 ∧ ∃ g c, v = .slice (some ⟨g, 0, none⟩) (N + 1) c ∧ w.ownsRow base 3 1 v (N + 1) ((rI r).map (Value.int .i64))
theorem RowV.kept {w w' : World} {base N : Nat} {v : Value} {r : List Nat} (h : RowV w base N v r) (hg : w.grownBy w' none) : RowV w' base N v r := by
  obtain ⟨h1, g, c, h2, h3⟩ := h
  exact ⟨h1, g, c, h2, own_keptM h3 hg⟩
theorem RowV.below {w w' : World} {base N S : Nat} {v : Value} {r : List Nat} (h : RowV w base N v r) (hb : S < base) (hg : w.grownBy w' (some S)) : RowV w' base N v r := by
  obtain ⟨h1, g, c, h2, h3⟩ := h
  exact ⟨h1, g, c, h2, own_below h3 hb hg⟩
theorem RowV.beside {w w' : World} {base N b2 : Nat} {v v2 : Value} {r : List Nat} {e2 : TypeId} {n2 : Nat} {x2 : List Value} (h : RowV w base N v r) (h2 : w.ownsRow b2 e2 1 v2 n2 x2) (he : 3 ≠ e2) (hg : w.grownBy w' v2.ownBlock) : RowV w' base N v r := by
  obtain ⟨h1, g, c, hv, h3⟩ := h
  exact ⟨h1, g, c, hv, World.ownsRow.kept h3 hg (own_typed h3 h2 he)⟩
theorem RowV.ints {w : World} {base N : Nat} {v : Value} {r : List Nat} (h : RowV w base N v r) (hN : N ≤ 1000) : ∃ g c, v = .slice (some ⟨g, 0, none⟩) (N + 1) c ∧ IntsAt w (some ⟨g, 0, none⟩) (rI r) := by
  obtain ⟨h1, g, c, rfl, h3⟩ := h
  refine ⟨g, c, rfl, OwnI.at (base := base) (cap := c) ?_ (by rw [rI_len]; unfold maxLen; omega)⟩
  unfold OwnI
  rw [rI_len, h1]
  exact h3
/-- A list of rows. -/
def ListAt (w : World) (base N : Nat) (v : Value) (rs : List (List Nat)) : Prop :=
  ∃ vals, w.ownsRow base 29 1 v rs.length vals ∧ ∀ i, i < rs.length → ∃ u, vals[i]? = some u ∧ RowV w base N u (rs.getD i [])
theorem ListAt.kept {w w' : World} {base N : Nat} {v : Value} {rs : List (List Nat)} (h : ListAt w base N v rs) (hg : w.grownBy w' none) : ListAt w' base N v rs := by
  obtain ⟨vals, h1, h2⟩ := h
  refine ⟨vals, own_keptM h1 hg, fun i hi => ?_⟩
  obtain ⟨u, h3, h4⟩ := h2 i hi
  exact ⟨u, h3, h4.kept hg⟩
theorem ListAt.below {w w' : World} {base N S : Nat} {v : Value} {rs : List (List Nat)} (h : ListAt w base N v rs) (hb : S < base) (hg : w.grownBy w' (some S)) : ListAt w' base N v rs := by
  obtain ⟨vals, h1, h2⟩ := h
  refine ⟨vals, own_below h1 hb hg, fun i hi => ?_⟩
  obtain ⟨u, h3, h4⟩ := h2 i hi
  exact ⟨u, h3, h4.below hb hg⟩
/-- One row more. -/
theorem ListAt.more {w w' : World} {base N : Nat} {v v' u : Value} {rs : List (List Nat)} {vals : List Value} {r : List Nat} (h1 : w.ownsRow base 29 1 v rs.length vals) (h2 : ∀ i, i < rs.length → ∃ u, vals[i]? = some u ∧ RowV w base N u (rs.getD i [])) (hu : RowV w base N u r)
    (ho : w'.ownsRow base 29 1 v' (rs.length + 1) (vals ++ [u])) (hg : w.grownBy w' v.ownBlock) : ListAt w' base N v' (rs ++ [r]) := by
  have hl := h1.1
  have hl' : vals.length = rs.length := by omega
  have ne : 3 ≠ 29 := by decide
  refine ⟨vals ++ [u], by rw [List.length_append]; exact ho, fun i hi => ?_⟩
  simp at hi
  by_cases e : i < rs.length
  · obtain ⟨x, h3, h4⟩ := h2 i e
    refine ⟨x, by rw [List.getElem?_append_left (by omega)]; exact h3, ?_⟩
    rw [getD_old e]
    exact h4.beside h1 ne hg
  · obtain rfl : i = rs.length := by omega
    refine ⟨u, by rw [List.getElem?_append_right (by omega), hl', Nat.sub_self]; rfl, ?_⟩
    rw [getD_new]
    exact hu.beside h1 ne hg
/-- The list's shape, and where its row i lies. -/
theorem ListAt.at {w : World} {base N : Nat} {v : Value} {rs : List (List Nat)} (h : ListAt w base N v rs) (hN : N ≤ 1000) {i : Nat} (hi : i < rs.length) :
    ∃ g c gi ci, v = .slice (some ⟨g, 0, none⟩) rs.length c ∧ w.cell? ⟨g, i, none⟩ = some (.slice (some ⟨gi, 0, none⟩) (N + 1) ci) ∧ IntsAt w (some ⟨gi, 0, none⟩) (rI (rs.getD i [])) := by
  obtain ⟨vals, h1, h2⟩ := h
  obtain ⟨u, h3, h4⟩ := h2 i hi
  obtain ⟨gi, ci, rfl, h5⟩ := h4.ints hN
  rcases h1.2 with ⟨rfl, h0⟩ | ⟨g, c, cur, rfl, hb, hg, _⟩
  · rw [h0] at hi; exact absurd hi (Nat.not_lt_zero i)
  · exact ⟨g, c, gi, ci, rfl, by rw [World.ownsRow.cellAt h1 i (by omega), h3], h5⟩
theorem ListAt.shape {w : World} {base N : Nat} {v : Value} {rs : List (List Nat)} (h : ListAt w base N v rs) : ∃ a c, v = .slice a rs.length c := by
  obtain ⟨vals, h1, _⟩ := h
  rcases h1.2 with ⟨rfl, h0⟩ | ⟨g, c, cur, rfl, _⟩
  · exact ⟨none, 0, by rw [h0]⟩
  · exact ⟨_, c, rfl⟩

/-! Marks. -/
def seenV (M : Nat) (f : Nat → Bool) : List Value := (List.range M).map fun c => Value.int .i64 (if f c = true then 1 else 0)
def SeenAt (w : World) (S M : Nat) (f : Nat → Bool) : Prop := w.ownsRow S 3 1 (.slice (some ⟨S, 0, none⟩) M M) M (seenV M f)
theorem SeenAt.kept {w w' : World} {S M : Nat} {f : Nat → Bool} (h : SeenAt w S M f) (hg : w.grownBy w' none) : SeenAt w' S M f := own_keptM h hg
theorem SeenAt.beside {w w' : World} {S M : Nat} {f : Nat → Bool} {b2 : Nat} {v2 : Value} {e2 : TypeId} {n2 : Nat} {x2 : List Value} (h : SeenAt w S M f) (h2 : w.ownsRow b2 e2 1 v2 n2 x2) (he : 3 ≠ e2) (hg : w.grownBy w' v2.ownBlock) : SeenAt w' S M f :=
  World.ownsRow.kept h hg (own_typed h h2 he)
theorem SeenAt.cell {w : World} {S M : Nat} {f : Nat → Bool} (h : SeenAt w S M f) {c : Nat} (hc : c < M) : w.cell? ⟨S, c, none⟩ = some (.int .i64 (if f c = true then 1 else 0)) := by
  rw [World.ownsRow.cellAt h c (by omega)]
  unfold seenV
  simp [hc]
theorem SeenAt.put {w : World} {S M : Nat} {f : Nat → Bool} (h : SeenAt w S M f) {c : Nat} (_hc : c < M) : SeenAt (w.setCell ⟨S, c, none⟩ (.int .i64 1)) S M (fun x => f x || x == c) ∧ w.grownBy (w.setCell ⟨S, c, none⟩ (.int .i64 1)) (some S) ∧ w.frozen? ⟨S, c, none⟩ = false := by
  have hs := World.ownsRow.stored h c (.int .i64 1)
  refine ⟨?_, hs.2, World.ownsRow.frozenAt h c⟩
  have e : (seenV M f).set c (.int .i64 1) = seenV M (fun x => f x || x == c) := by
    unfold seenV
    apply List.ext_getElem
    · simp
    · intro i h1 h2
      rw [List.getElem_set]
      simp only [List.getElem_map, List.getElem_range]
      by_cases e : c = i
      · subst e; simp
      · rw [if_neg e]
        have : (i == c) = false := by rw [beq_eq_false_iff_ne]; exact fun q => e q.symm
        rw [this, Bool.or_false]
  have h1 := hs.1
  rw [e] at h1
  exact h1
theorem SeenAt.congr {w : World} {S M : Nat} {f g : Nat → Bool} (h : SeenAt w S M f) (e : ∀ c, c < M → f c = g c) : SeenAt w S M g := by
  have : seenV M f = seenV M g := by
    unfold seenV
    refine List.map_congr_left fun c hc => ?_
    rw [e c (List.mem_range.1 hc)]
  unfold SeenAt
  rw [← this]
  exact h

end Go.Proofs.YtakjlfcgciglgaaDoor
