/-
  A pair, a desk, a deed that came in, opened to their cells. No function is named.
-/
import Derived.Test.YtlnffpofbfigaaaDoorDSpec
import Derived.Deep.Slices
import Derived.Deep.Fields
import Derived.Lib.SmallJoins
namespace Go.Proofs.YtlnffpofbfigaaaDoor
open Go.RowKit Go.ChangeShapes Go.WideShapes Go.Deep Go.Joins

section
variable {H : Type} {enc : TypeId × Value → H} {P : Program} {w : World} {base : Nat} {spare : Nat → Bool} {held : Bool}
/-- What a struct of a number and a text must be. -/
structure PairT (P : Program) (t : TypeId) (f0 f1 : Field) : Prop where
  str : P.underlying t = some (.struct #[f0, f1])
  o0 : f0.offset = 0
  o1 : f1.offset = 1
  c0 : P.cellsOf f0.type = 1
  c1 : P.cellsOf f1.type = 1
  ct : P.cellsOf t = 2
  i0 : P.underlying f0.type = some (.int .i64)
  i1 : P.underlying f1.type = some .string
theorem PairT.read {t : TypeId} {f0 f1 : Field} (T : PairT P t f0 f1) {fuel : Nat} {u v : Value} {x : DataW H × List MemPlace} (h : DataW.trod enc P w base spare held fuel t [u, v] = some x) : ∃ (n : Int) (s : ByteArray), u = .int .i64 n ∧ v = .string s ∧ (Lit.int .i64 n).wf = true ∧ s.size ≤ maxLen := by
  obtain ⟨xs, n, _, _, _, hl, hf⟩ := DataW.trod_struct T.str h
  have a := hf 0 f0 rfl
  have b := hf 1 f1 rfl
  rw [T.o0, T.c0] at a
  rw [T.o1, T.c1] at b
  obtain ⟨y0, y1, rfl⟩ : ∃ y0 y1, xs = [y0, y1] := by
    match xs, hl with
    | [y0, y1], _ => exact ⟨y0, y1, rfl⟩
  obtain ⟨k, e0, _, hk⟩ := DataW.trod_int (x := y0) T.i0 (by simpa using a)
  obtain ⟨s, e1, _, hs⟩ := DataW.trod_string (x := y1) T.i1 (by simpa using b)
  simp at e0 e1
  exact ⟨k, s, e0, e1, hk, hs⟩
theorem open_pair {r : Reach} {b0 : Nat} {t : TypeId} {f0 f1 : Field} (T : PairT P t f0 f1) {v : Value} {d : DataW H} {p : List MemPlace} (hv : Value.okWide P w r b0 t v) (h : DataW.Trod enc P w base spare held t v d p) :
    ∃ (n : Int) (s : ByteArray), v = .agg #[.int .i64 n, .string s] ∧ (Lit.int .i64 n).wf = true ∧ s.size ≤ maxLen := by
  obtain ⟨cs, rfl, hc⟩ := okWide_struct T.str hv
  obtain ⟨u, x, rfl⟩ : ∃ u x, cs = #[u, x] := by
    rw [T.ct] at hc
    match cs, hc with
    | ⟨[u, x]⟩, _ => exact ⟨u, x, rfl⟩
  obtain ⟨fuel, hf⟩ := h
  obtain ⟨n, s, rfl, rfl, h1, h2⟩ := T.read hf
  exact ⟨n, s, rfl, h1, h2⟩
theorem lds_of {a : Addr} {len : Nat} (hm : len ≤ maxLen) (h : ∀ i, i < len → ∃ (n : Int) (s : ByteArray), w.cell? (a.add (i * 2)) = some (.int .i64 n) ∧ w.cell? (a.add (i * 2 + 1)) = some (.string s) ∧ s.size ≤ maxLen) :
    ∃ xs : List Ld, xs.length = len ∧ LdsAt w (some a) xs ∧ ∀ x ∈ xs, x.2.length ≤ maxLen := by
  by_cases h0 : len = 0
  · subst h0
    exact ⟨[], rfl, LdsAt.nil _ _, by simp⟩
  obtain ⟨b, off, spot⟩ := a
  have hsp : spot = none := by
    obtain ⟨n, s, c0, _⟩ := h 0 (by omega)
    simpa [Addr.add] using World.cell?_spot c0
  subst hsp
  have h' : ∀ i, i < len → ∃ (n : Int) (s : ByteArray), w.cell? ⟨b, off + i * 2, none⟩ = some (.int .i64 n) ∧ w.cell? ⟨b, off + i * 2 + 1, none⟩ = some (.string s) ∧ s.size ≤ maxLen := by
    intro i hi
    obtain ⟨n, s, c0, c1, hs⟩ := h i hi
    rw [add_none] at c0 c1
    exact ⟨n, s, c0, by rw [Nat.add_assoc]; exact c1, hs⟩
  have hch : ∃ f : Nat → Ld, ∀ i, i < len → w.cell? ⟨b, off + i * 2, none⟩ = some (.int .i64 (f i).1) ∧ w.cell? ⟨b, off + i * 2 + 1, none⟩ = some (.string (bs (f i).2)) ∧ (f i).2.length ≤ maxLen := by
    refine ⟨fun i => if hi : i < len then ((h' i hi).choose, bl (h' i hi).choose_spec.choose) else nilLd, fun i hi => ?_⟩
    have q := (h' i hi).choose_spec.choose_spec
    simp only [dif_pos hi]
    refine ⟨q.1, q.2.1, ?_⟩
    show (bl _).length ≤ maxLen
    rw [← bl_size]; exact q.2.2
  obtain ⟨f, hf⟩ := hch
  have hg : ∀ i, i < len → ((List.range len).map f).getD i nilLd = f i := fun i hi => by simp [List.getD_eq_getElem?_getD, hi]
  refine ⟨(List.range len).map f, by simp, ⟨by simpa using hm, .inr ⟨b, off, rfl, ?_, fun i hi => ?_⟩⟩, fun x hx => ?_⟩
  · have := (hf 0 (by omega)).1
    exact World.block_lt_of_cell? w _ this
  · have hi' : i < len := by simpa using hi
    rw [hg i hi']
    exact ⟨(hf i hi').1, (hf i hi').2.1⟩
  · obtain ⟨i, hi, rfl⟩ := List.mem_map.1 hx
    exact (hf i (List.mem_range.1 hi)).2.2
theorem open_pairs {t e : TypeId} {f0 f1 : Field} (T : PairT P e f0 f1) (ht : P.underlying t = some (.slice e)) {fuel : Nat} {c : Value} {x : DataW H × List MemPlace} (h : DataW.trod enc P w base spare held fuel t [c] = some x) :
    ∃ (a : Option Addr) (cap : Nat) (xs : List Ld), c = .slice a xs.length cap ∧ LdsAt w a xs ∧ (a = none → cap = 0) ∧ ∀ x ∈ xs, x.2.length ≤ maxLen := by
  rcases open_slice ht h with ⟨h0, _⟩ | ⟨a, len, cap, m, n, D, Pl, hcs, _, hl, hm, hmm, _, hi⟩
  · simp at h0
    exact ⟨none, 0, [], by rw [h0]; rfl, LdsAt.nil _ _, fun _ => rfl, by simp⟩
  · simp at hcs
    have hlm : len ≤ m := by rw [hmm]; split <;> omega
    have hc : ∀ i, i < len → ∃ (n : Int) (s : ByteArray), w.cell? (a.add (i * 2)) = some (.int .i64 n) ∧ w.cell? (a.add (i * 2 + 1)) = some (.string s) ∧ s.size ≤ maxLen := by
      intro i hil
      obtain ⟨cs', hcc, hts⟩ := hi i (by omega)
      rw [T.ct] at hcc
      obtain ⟨_, hcl, hat⟩ := World.cells?_some hcc
      obtain ⟨u, v, rfl⟩ : ∃ u v, cs' = [u, v] := by
        match cs', hcl with
        | [u, v], _ => exact ⟨u, v, rfl⟩
      obtain ⟨k, s, rfl, rfl, _, hs⟩ := T.read hts
      have q0 := hat 0 (by omega)
      have q1 := hat 1 (by omega)
      refine ⟨k, s, by rw [add_add] at q0; simpa using q0, by rw [add_add] at q1; simpa using q1, hs⟩
    obtain ⟨xs, rfl, hx, hz⟩ := lds_of (by omega) hc
    exact ⟨some a, cap, xs, hcs, hx, (by simp), hz⟩
theorem open_desk {r : Reach} {b0 : Nat} {t tl ts e : TypeId} {g0 g1 f0 f1 f2 f3 : Field} (hs : P.underlying t = some (.struct #[g0, g1])) (o0 : g0.offset = 0) (o1 : g1.offset = 2) (e0 : g0.type = tl) (e1 : g1.type = ts) (T : PairT P tl f0 f1) (ht : P.underlying ts = some (.slice e)) (E : PairT P e f2 f3) (c1 : P.cellsOf ts = 1) (ct : P.cellsOf t = 3)
    {v : Value} {d : DataW H} {p : List MemPlace} (hv : Value.okWide P w r b0 t v) (h : DataW.Trod enc P w base spare held t v d p) :
    ∃ (n : Int) (s : ByteArray) (a : Option Addr) (cap : Nat) (xs : List Ld), v = .agg #[.int .i64 n, .string s, .slice a xs.length cap] ∧ s.size ≤ maxLen ∧ LdsAt w a xs ∧ (a = none → cap = 0) ∧ ∀ x ∈ xs, x.2.length ≤ maxLen := by
  obtain ⟨cs, rfl, hc⟩ := okWide_struct hs hv
  obtain ⟨u, x, y, rfl⟩ : ∃ u x y, cs = #[u, x, y] := by
    rw [ct] at hc
    match cs, hc with
    | ⟨[u, x, y]⟩, _ => exact ⟨u, x, y, rfl⟩
  obtain ⟨fuel, hf⟩ := h
  obtain ⟨zs, n, _, _, _, hl, hg⟩ := DataW.trod_struct hs hf
  have q0 := hg 0 g0 rfl
  have q1 := hg 1 g1 rfl
  rw [o0, e0, T.ct] at q0
  rw [o1, e1, c1] at q1
  obtain ⟨z0, z1, rfl⟩ : ∃ z0 z1, zs = [z0, z1] := by
    match zs, hl with
    | [z0, z1], _ => exact ⟨z0, z1, rfl⟩
  obtain ⟨k, s, rfl, rfl, _, hs'⟩ := T.read (x := z0) (by simpa [Value.cells] using q0)
  obtain ⟨a, cap, xs, rfl, hx, h0, hz⟩ := open_pairs E ht (x := z1) (by simpa [Value.cells] using q1)
  exact ⟨k, s, a, cap, xs, rfl, hs', hx, h0, hz⟩
end

end Go.Proofs.YtlnffpofbfigaaaDoor
