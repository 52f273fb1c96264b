/-
  The model's RowSaid, SayableOk, CountSayable. No condition but that a row which was handed over can be read.
-/
import Derived.Test.YtakjlfcgciglgaaDoorASpec
import Derived.Test.YtakjlfcgciglgaaDoorRow
import Derived.Test.YtakjlfcgciglgaaDoorGcd
import Derived.Test.YtakjlfcgciglgaaDoorSay
namespace Go.Proofs.YtakjlfcgciglgaaDoor
open Go.RowKit

def saidTo (N : Nat) (t : Tr) (k : Nat) : List Int := (List.range k).map fun (v : Nat) => t.val N (v : Int) v v
theorem saidTo_len (N : Nat) (t : Tr) (k : Nat) : (saidTo N t k).length = k := by unfold saidTo; simp
theorem saidTo_next (N : Nat) (t : Tr) (k : Nat) : saidTo N t (k + 1) = saidTo N t k ++ [t.val N k k k] := by unfold saidTo; rw [List.range_succ, List.map_append]; rfl
theorem saidTo_at (N : Nat) (t : Tr) {k v : Nat} (h : v < k) : (saidTo N t k).getD v 0 = t.val N v v v := by unfold saidTo; simp [List.getD_eq_getElem?_getD, h]
def saidL (n : Int) (l : List UInt8) : List Int :=
  match fOf l with
  | some t => if inB n 1 6 = true then saidTo n.toNat t (n.toNat + 1) else []
  | none => []
theorem saidL_n {n : Int} {l : List UInt8} (h : fOf l = none) : saidL n l = [] := by unfold saidL; rw [h]
theorem saidL_o {n : Int} {l : List UInt8} (h : inB n 1 6 = false) : saidL n l = [] := by unfold saidL; rw [h]; cases fOf l <;> rfl
theorem saidL_t {N : Nat} {l : List UInt8} {t : Tr} (h : fOf l = some t) (hi : inB N 1 6 = true) : saidL N l = saidTo N t (N + 1) := by unfold saidL; rw [h]; simp only [hi]; rfl

def SaRel (N : Nat) (t : Tr) (w : World) (v i : Value) (wr : World) : Prop :=
  ∃ k : Nat, k ≤ N + 1 ∧ i = .int .i64 k ∧ wr.ownsRow w.heap.size 3 1 v (saidTo N t k).length ((saidTo N t k).map (Value.int .i64)) ∧ w.grownBy wr none

/-! Rows that may be said. -/
def sayAt (n : Int) (xs : List Int) (v : Nat) : Bool := inB (xs.getD v 0) 0 n && (xs.getD v 0 % ((Nat.gcd v n.toNat : Nat) : Int) == 0)
def sayB (n : Int) (xs : List Int) : Bool := inB n 1 6 && (decide ((xs.length : Int) = n + 1) && (List.range xs.length).all fun v => sayAt n xs v)
theorem sayB_of {n : Int} {xs : List Int} (h : sayB n xs = true) : (1 ≤ n ∧ n ≤ 6) ∧ (xs.length : Int) = n + 1 ∧ ∀ v, v < xs.length → sayAt n xs v = true := by
  unfold sayB at h
  rw [Bool.and_eq_true, Bool.and_eq_true, List.all_eq_true] at h
  exact ⟨inB_of h.1, of_decide_eq_true h.2.1, fun v hv => h.2.2 v (List.mem_range.2 hv)⟩
theorem sayB_mk {n : Int} {xs : List Int} (h1 : 1 ≤ n ∧ n ≤ 6) (h2 : (xs.length : Int) = n + 1) (h3 : ∀ v, v < xs.length → sayAt n xs v = true) : sayB n xs = true := by
  unfold sayB
  rw [Bool.and_eq_true, Bool.and_eq_true, List.all_eq_true]
  exact ⟨inB_t h1, decide_eq_true h2, fun v hv => h3 v (List.mem_range.1 hv)⟩
theorem sayB_no {n : Int} {xs : List Int} {v : Nat} (hv : v < xs.length) (h : sayAt n xs v = false) : sayB n xs = false := by
  cases e : sayB n xs
  · rfl
  · have := (sayB_of e).2.2 v hv
    rw [h] at this; cases this
theorem sayB_f {n : Int} {xs : List Int} (h : ¬ (xs.length : Int) = n + 1) : sayB n xs = false := by
  cases e : sayB n xs
  · rfl
  · exact absurd (sayB_of e).2.1 h
theorem sayB_o {n : Int} {xs : List Int} (h : inB n 1 6 = false) : sayB n xs = false := by unfold sayB; rw [h]; rfl
def SyRel (n : Int) (xs : List Int) (w : World) (i : Value) (wr : World) : Prop := ∃ k : Nat, k ≤ xs.length ∧ i = .int .i64 k ∧ (∀ j, j < k → sayAt n xs j = true) ∧ w.grownBy wr none

end Go.Proofs.YtakjlfcgciglgaaDoor
