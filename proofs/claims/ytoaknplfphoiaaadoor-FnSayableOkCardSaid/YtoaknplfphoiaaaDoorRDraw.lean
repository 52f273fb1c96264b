/-
  The draws of chapter 8: some chain and rows of at most six values.
-/
import Derived.Test.YtoaknplfphoiaaaDoorRow
import Derived.Test.YtoaknplfphoiaaaDoorSDraw
import Derived.Test.YtoaknplfphoiaaaDoorADraw
namespace Go.Proofs.YtoaknplfphoiaaaDoor
open Go.RowKit

theorem Rd.rowI {w2 w3 : World} {r P base : Nat} {e : TypeId} {v : Value} {n : Nat} {xs : List Value} (hr : Rd w2 r P) (ho : w2.ownsRow base e 1 v n xs) (hb : r < base) (hg : w2.grownBy w3 v.ownBlock) : Rd w3 r P :=
  hr.kept fun k hk => hg.block k (Nat.lt_of_le_of_lt hk hr.lt) (fun e => by have := World.ownsRow.lt ho k e.symm; omega)
/-- Growth by a row that the call owns, beside the reader. -/
theorem grownBy_rowI {a b c : World} {base r : Nat} {v : Value} {n : Nat} {xs : List Value} {e : TypeId} (h : a.grownBy b (some r)) (ho : b.ownsRow base e 1 v n xs) (hb : a.heap.size ≤ base) (k : b.grownBy c v.ownBlock) : a.grownBy c (some r) :=
  ⟨k.os.trans h.os, k.tape.trans h.tape, k.output.trans h.output, Nat.le_trans h.size k.size, fun i hi hne => by
    refine (k.block i (Nat.lt_of_lt_of_le hi h.size) fun e => ?_).trans (h.block i hi hne)
    have := World.ownsRow.lt ho i e.symm
    omega⟩
theorem own_apartI {w w' : World} {base r : Nat} {e : TypeId} {v : Value} {n : Nat} {xs : List Value} (ho : w.ownsRow base e 1 v n xs) (hb : r < base) (hg : w.grownBy w' (some r)) : w'.ownsRow base e 1 v n xs :=
  World.ownsRow.kept ho hg (.inr fun e => by have := World.ownsRow.lt ho r e; omega)
theorem own_ints {wr : World} {base : Nat} {v : Value} {xs : List Int} (hm : xs.length ≤ maxLen) (h : wr.ownsRow base 3 1 v xs.length (xs.map (Value.int .i64))) : ∃ a cap, v = .slice a xs.length cap ∧ xs.length ≤ cap ∧ IntsAt wr a xs ∧ ∀ x, a = some x → base ≤ x.block := by
  obtain ⟨a, cap, rfl, _, hO⟩ := ownI_shape h
  have hA := hO.at hm
  rcases hO.2 with ⟨h1, h0⟩ | ⟨g, c, cur, h1, hb, hg, hlc, hcc, h2⟩
  · simp only [Value.slice.injEq] at h1
    obtain ⟨rfl, _, rfl⟩ := h1
    exact ⟨none, 0, rfl, by omega, hA, fun x e => by cases e⟩
  · simp only [Value.slice.injEq, true_and] at h1
    obtain ⟨rfl, rfl⟩ := h1
    exact ⟨_, _, rfl, hlc, hA, fun x e => by cases e; exact hb⟩

def RowPost (r P : Nat) (w : World) (e : Ending) (w' : World) : Prop :=
  ∃ (xs : List Int) (a : Option Addr) (cap : Nat), e = .returned (.slice a xs.length cap) ∧ 1 ≤ xs.length ∧ xs.length ≤ 5 ∧ xs.length ≤ cap ∧ (∀ x ∈ xs, 0 ≤ x ∧ x ≤ 1007) ∧ IntsAt w' a xs ∧ (∀ x, a = some x → r < x.block) ∧ Rd w' r (P + 11) ∧ w.grownBy w' (some r)

def RowsRel (r P : Nat) (w : World) (v i : Value) (wr : World) : Prop :=
  ∃ (xs : List Int) (m : Nat), 1 ≤ xs.length + m ∧ xs.length + m ≤ 5 ∧ i = .int .i64 m ∧ wr.ownsRow w.heap.size 3 1 v xs.length (xs.map (Value.int .i64)) ∧ (∀ x ∈ xs, 0 ≤ x ∧ x ≤ 1007) ∧ Rd wr r (P + 1 + 2 * xs.length) ∧ w.grownBy wr (some r)

end Go.Proofs.YtoaknplfphoiaaaDoor
