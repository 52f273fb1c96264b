/-
  Sets of values of a chain as numbers: closed sets, what a set makes, chains within, their steps. No program is named.
-/
import Derived.Test.YtakjlfcgciglgaaDoorBase
namespace Go.Proofs.YtakjlfcgciglgaaDoor

def bit (s v : Nat) : Bool := s / 2 ^ v % 2 == 1
def folN (n a b : Nat) : Nat := if n - a + b ≤ n then n - a + b else n
def upB (k : Nat) (p : Nat → Bool) : Bool := (List.range k).all p
theorem upB_of {k : Nat} {p : Nat → Bool} (h : upB k p = true) {j : Nat} (hj : j < k) : p j = true := by
  unfold upB at h
  rw [List.all_eq_true] at h
  exact h j (List.mem_range.2 hj)
theorem upB_mk {k : Nat} {p : Nat → Bool} (h : ∀ j, j < k → p j = true) : upB k p = true := by
  unfold upB
  rw [List.all_eq_true]
  exact fun j hj => h j (List.mem_range.1 hj)
theorem upB_no {k : Nat} {p : Nat → Bool} {j : Nat} (hj : j < k) (h : p j = false) : upB k p = false := by
  cases e : upB k p
  · rfl
  · rw [upB_of e hj] at h; cases h

/-- Whether what tells that b follows of a is in it, if both are. -/
def folB (n s a b : Nat) : Bool := !(bit s a && bit s b) || bit s (folN n a b)
def closN (n s : Nat) : Bool := bit s 0 && upB (n + 1) fun a => upB (n + 1) fun b => folB n s a b
/-- The set with what follows, over the first places of the pairs. -/
def nextN (n s : Nat) : Nat → Nat
  | 0 => s
  | k + 1 => if bit s (k / (n + 1)) && bit s (k % (n + 1)) then nextN n s k ||| 2 ^ folN n (k / (n + 1)) (k % (n + 1)) else nextN n s k
def stepN (n s : Nat) : Nat := nextN n s ((n + 1) * (n + 1))
def madeF : Nat → Nat → Nat → Nat
  | 0, _, s => s
  | k + 1, n, s => if closN n s then s else madeF k n (stepN n s)
def madeN (n s : Nat) : Nat := madeF 8 n (s ||| 1)
def withN (n m : Nat) : Nat → Nat
  | 0 => 0
  | v + 1 => withN n m v ||| 2 ^ (v * n / m)
def withinN (n m : Nat) : Nat := withN n m (m + 1)
def setsTo (n : Nat) : Nat → List Nat
  | 0 => []
  | s + 1 => if closN n s then setsTo n s ++ [s] else setsTo n s
def setsN (n : Nat) : List Nat := setsTo n (2 ^ (n + 1))
def cntN (s : Nat) : Nat → Nat
  | 0 => 0
  | v + 1 => cntN s v + s / 2 ^ v % 2
def stpN (n s : Nat) : Nat := cntN s (n + 1) - 1
def divsN (n : Nat) : List Nat := (List.range (n + 1)).filter fun d => 1 ≤ d && n % d == 0
/-- The steps of a value in lowest terms. -/
def lowN (n v : Nat) : Nat := n / Nat.gcd n v

def tabN (p : Nat → Nat → Bool) : Bool := [1, 2, 3, 4, 5, 6].all fun n => (List.range (2 ^ (n + 1))).all (p n)
theorem tab_of {p : Nat → Nat → Bool} (h : tabN p = true) {n s : Nat} (hn : 1 ≤ n ∧ n ≤ 6) (hs : s < 2 ^ (n + 1)) : p n s = true := by
  unfold tabN at h
  rw [List.all_eq_true] at h
  have h1 := h n (by simp; omega)
  rw [List.all_eq_true] at h1
  exact h1 s (List.mem_range.2 hs)

def setsL : Nat → List Nat
  | 1 => [3]
  | 2 => [5, 7]
  | 3 => [9, 15]
  | 4 => [17, 21, 31]
  | 5 => [33, 63]
  | 6 => [65, 73, 85, 127]
  | _ => []
theorem sets_lit {n : Nat} (hn : 1 ≤ n ∧ n ≤ 6) : setsN n = setsL n := by
  have h : [1, 2, 3, 4, 5, 6].all (fun n => setsN n == setsL n) = true := by decide +kernel
  rw [List.all_eq_true] at h
  exact eq_of_beq (h n (by simp; omega))

/-- All signs of two values. -/
def signsB (n s a b : Nat) : Bool := !(bit s a && bit s b) || (bit s (n - a) && bit s (min n (a + b)) && bit s (a + b - n) && bit s (min a b) && bit s (max a b))
theorem clos_signs : tabN (fun n s => !closN n s || (bit s n && upB (n + 1) fun a => upB (n + 1) fun b => signsB n s a b)) = true := by decide +kernel
/-- A round brings more, as long as it isn't closed. -/
theorem step_more : tabN (fun n s => !bit s 0 || closN n s || (decide (s < stepN n s) && decide (stepN n s < 2 ^ (n + 1)) && bit (stepN n s) 0)) = true := by decide +kernel
theorem made_step : tabN (fun n s => !bit s 0 || closN n s || madeF 8 n (stepN n s) == madeF 8 n s) = true := by decide +kernel
theorem made_stop : tabN (fun n s => !closN n s || madeF 8 n s == s) = true := by decide +kernel
theorem made_ok : tabN (fun n s => closN n (madeN n s) && (madeN n s &&& s == s) && decide (madeN n s < 2 ^ (n + 1)) && (setsL n).all (fun t => !(t &&& s == s) || (t &&& madeN n s == madeN n s))) = true := by decide +kernel
theorem made_one : tabN (fun n v => !decide (v ≤ n) || madeN n (2 ^ v) == withinN n (lowN n v)) = true := by decide +kernel
theorem within_ok : tabN (fun n m => !(decide (1 ≤ m) && decide (m ≤ n) && n % m == 0) || (closN n (withinN n m) && decide (withinN n m < 2 ^ (n + 1)) && stpN n (withinN n m) == m && withinN n n == 2 ^ (n + 1) - 1)) = true := by decide +kernel
theorem sets_ok : tabN (fun n s => !closN n s || (decide (1 ≤ stpN n s) && decide (stpN n s ≤ n) && n % stpN n s == 0 && withinN n (stpN n s) == s)) = true := by decide +kernel
theorem sets_many : [1, 2, 3, 4, 5, 6].all (fun n => (setsL n).length == (divsN n).length) = true := by decide +kernel

end Go.Proofs.YtakjlfcgciglgaaDoor
