/-
  Sets of values of a chain as the program makes them: the values of a set in their order, what follows within a set, joined. No program is named.
-/
import Derived.Test.YtakjlfcgciglgaaDoorSet
import Derived.Lib.TrailingZeros
namespace Go.Proofs.YtakjlfcgciglgaaDoor

/-- The values of a set, ascending, each at most n. -/
def valsA (n s : Nat) : List (Fin (n + 1)) := (List.finRange (n + 1)).filter fun v => bit s v.1
def inF (n a acc : Nat) (bs : List (Fin (n + 1))) : Nat := bs.foldl (fun r b => r ||| 2 ^ folN n a b.1) acc
def outF (n : Nat) (vs ys : List (Fin (n + 1))) : Nat := ys.foldl (fun r a => inF n a.1 r vs) 0
def folsN (n s : Nat) : Nat := outF n (valsA n s) (valsA n s)
theorem inF_snoc (n a acc : Nat) (pre : List (Fin (n + 1))) (b : Fin (n + 1)) : inF n a acc (pre ++ [b]) = inF n a acc pre ||| 2 ^ folN n a b.1 := by simp [inF]
theorem outF_snoc (n : Nat) (vs pre : List (Fin (n + 1))) (a : Fin (n + 1)) : outF n vs (pre ++ [a]) = inF n a.1 (outF n vs pre) vs := by simp [outF]
theorem folN_le (n a b : Nat) : folN n a b ≤ n := by unfold folN; split <;> omega
theorem or_lt {k a b : Nat} (ha : a < 2 ^ k) (hb : b < 2 ^ k) : a ||| b < 2 ^ k := Nat.or_lt_two_pow ha hb
theorem inF_lt {n a acc : Nat} (hc : acc < 2 ^ (n + 1)) : ∀ bs : List (Fin (n + 1)), inF n a acc bs < 2 ^ (n + 1) := by
  intro bs
  unfold inF
  induction bs generalizing acc with
  | nil => exact hc
  | cons b bs ih => exact ih (or_lt hc (Nat.pow_lt_pow_right (by omega) (by have := folN_le n a b.1; omega)))
theorem outF_lt (n : Nat) (vs : List (Fin (n + 1)))   : ∀ ys, outF n vs ys < 2 ^ (n + 1) := by
  intro ys
  unfold outF
  have h0 : (0 : Nat) < 2 ^ (n + 1) := Nat.two_pow_pos _
  generalize (0 : Nat) = acc at h0
  induction ys generalizing acc with
  | nil => exact h0
  | cons a ys ih => exact ih _ (inF_lt h0 vs)
theorem folsN_lt (n s : Nat) : folsN n s < 2 ^ (n + 1) := outF_lt n _ _

/-- The lowest value of a set, and the set without it. -/
theorem vals_tab : tabN (fun n s => s == 0 || (match valsA n s with | k :: r => k.1 == Lib.ctz 64 s && r == valsA n (s &&& (s - 1)) | [] => false) && decide (s &&& (s - 1) < s)) = true := by decide +kernel
theorem vals_zero (n : Nat) (hn : 1 ≤ n ∧ n ≤ 6) : valsA n 0 = [] := by
  have h : [1, 2, 3, 4, 5, 6].all (fun n => valsA n 0 == []) = true := by decide +kernel
  rw [List.all_eq_true] at h
  exact eq_of_beq (h n (by simp; omega))
theorem vals_step {n s : Nat} (hn : 1 ≤ n ∧ n ≤ 6) (hs : s < 2 ^ (n + 1)) (h0 : s ≠ 0) : ∃ k : Fin (n + 1), valsA n s = k :: valsA n (s &&& (s - 1)) ∧ k.1 = Lib.ctz 64 s ∧ s &&& (s - 1) < s := by
  have h := tab_of vals_tab hn hs
  simp only [Bool.or_eq_true, beq_iff_eq, h0, false_or, Bool.and_eq_true, decide_eq_true_eq] at h
  obtain ⟨h1, h2⟩ := h
  cases e : valsA n s with
  | nil => rw [e] at h1; cases h1
  | cons k r =>
    rw [e] at h1
    simp only [Bool.and_eq_true, beq_iff_eq] at h1
    exact ⟨k, by rw [h1.2], h1.1, h2⟩
theorem clos_fols : tabN (fun n s => closN n s == (bit s 0 && (folsN n s ||| s == s))) = true := by decide +kernel
theorem step_fols : tabN (fun n s => s ||| folsN n s == stepN n s || !bit s 0) = true := by decide +kernel

/-- A set that may be asked. -/
def okS (n s : Int) : Bool := inB n 1 6 && decide (0 ≤ s) && decide (s.toNat < 2 ^ (n.toNat + 1))
def closI (n s : Int) : Bool := okS n s && closN n.toNat s.toNat
def madeI (n s : Int) : Int := if okS n s then (madeN n.toNat s.toNat : Int) else -1
def withI (n m : Int) : Int := if inB n 1 6 && inB m 1 6 && n.toNat % m.toNat == 0 then (withinN n.toNat m.toNat : Int) else -1
def setsI (n : Int) : List Int := if inB n 1 6 then (setsL n.toNat).map Int.ofNat else []
def stpI (n s : Int) : Int := if closI n s then (stpN n.toNat s.toNat : Int) else -1

/-- Whether one set lies within another. -/
def subN (p s : Nat) : Bool := p ||| s == s
theorem sub_tab : ((List.range 128).all fun p => (List.range 128).all fun s => (subN p s == (bits .andNot .i64 (p : Int) (s : Int) == 0))) = true := by decide +kernel
theorem sub_of {p s : Nat} (hp : p < 128) (hs : s < 128) : (bits .andNot .i64 (p : Int) (s : Int) == 0) = subN p s := by
  have h := sub_tab
  rw [List.all_eq_true] at h
  have h1 := h p (List.mem_range.2 hp)
  rw [List.all_eq_true] at h1
  exact (eq_of_beq (h1 s (List.mem_range.2 hs))).symm
theorem or64 {a b : Nat} (ha : a < 2 ^ 62) (hb : b < 2 ^ 62) : bits .or .i64 (a : Int) (b : Int) = ((a ||| b : Nat) : Int) :=
  (bits_nat .i64 62 (by decide) (fun n h0 h1 => by rw [IntKind.wrap_i64]; omega) a b ha hb).2
theorem and64 {a b : Nat} (ha : a < 2 ^ 62) (hb : b < 2 ^ 62) : bits .and .i64 (a : Int) (b : Int) = ((a &&& b : Nat) : Int) :=
  (bits_nat .i64 62 (by decide) (fun n h0 h1 => by rw [IntKind.wrap_i64]; omega) a b ha hb).1
theorem pow_le7 {n : Nat} (hn : n ≤ 6) : 2 ^ (n + 1) ≤ 128 := by
  have : 2 ^ (n + 1) ≤ 2 ^ 7 := Nat.pow_le_pow_right (by omega) (by omega)
  omega

end Go.Proofs.YtakjlfcgciglgaaDoor
