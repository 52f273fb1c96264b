/-
  Chapter 11 as plain numbers: how many bits a number has, and how many numbers below a power of two have fewer bits than so many. No program is named.
-/
import Derived.Test.YthfikgaghinfbaaGame
namespace Go.Proofs.Ythfikgaghinfbaa

def popF : Nat → Nat → Nat
  | 0, _ => 0
  | f + 1, x => x % 2 + popF f (x / 2)
/-- How many bits a number below 4096 has. -/
def pop (x : Nat) : Nat := popF 12 x
theorem popF_zero : ∀ f, popF f 0 = 0
  | 0 => rfl
  | f + 1 => by show 0 % 2 + popF f (0 / 2) = 0; simp [popF_zero f]
theorem popF_more : ∀ (f x : Nat), x < 2 ^ f → popF (f + 1) x = popF f x
  | 0, x, h => by have : x = 0 := by simpa using h
                  subst this; rfl
  | f + 1, x, h => by
    show x % 2 + popF (f + 1) (x / 2) = x % 2 + popF f (x / 2)
    rw [popF_more f (x / 2) (by rw [Nat.pow_succ] at h; omega)]
theorem pop_even {x : Nat} (h : x < 2048) : pop (2 * x) = pop x := by
  show (2 * x) % 2 + popF 11 (2 * x / 2) = popF 12 x
  rw [popF_more 11 x h, Nat.mul_mod_right, Nat.mul_div_cancel_left _ (by omega), Nat.zero_add]
theorem pop_odd {x : Nat} (h : x < 2048) : pop (2 * x + 1) = pop x + 1 := by
  show (2 * x + 1) % 2 + popF 11 ((2 * x + 1) / 2) = popF 12 x + 1
  rw [popF_more 11 x h, show (2 * x + 1) / 2 = x by omega, show (2 * x + 1) % 2 = 1 by omega]
  omega
/-- How many numbers below m have fewer bits than v. -/
def cntP (v : Nat) : Nat → Nat
  | 0 => 0
  | m + 1 => cntP v m + (if pop m < v then 1 else 0)
theorem cntP_none : ∀ m, cntP 0 m = 0
  | 0 => rfl
  | m + 1 => by show cntP 0 m + (if pop m < 0 then 1 else 0) = 0; rw [cntP_none m]; simp
theorem cntP_two (v : Nat) : ∀ m, m ≤ 2048 → cntP (v + 1) (2 * m) = cntP (v + 1) m + cntP v m
  | 0, _ => rfl
  | m + 1, h => by
    have ih := cntP_two v m (by omega)
    show cntP (v + 1) (2 * m) + (if pop (2 * m) < v + 1 then 1 else 0) + (if pop (2 * m + 1) < v + 1 then 1 else 0) = (cntP (v + 1) m + (if pop m < v + 1 then 1 else 0)) + (cntP v m + (if pop m < v then 1 else 0))
    rw [ih, pop_even (by omega), pop_odd (by omega)]
    have : (pop m + 1 < v + 1) ↔ (pop m < v) := by omega
    simp only [this]
    omega
theorem cntP_pow : ∀ (q v : Nat), q ≤ 12 → cntP v (2 ^ q) = wV q v
  | 0, 0, _ => rfl
  | 0, v + 1, _ => by
    rw [wV_none]
    show 0 + (if pop 0 < v + 1 then 1 else 0) = if v + 1 < 1 then v + 1 else 1
    have e : pop 0 = 0 := popF_zero 12
    rw [e, if_pos (by omega), if_neg (by omega)]
  | q + 1, 0, _ => by rw [cntP_none]; rfl
  | q + 1, v + 1, h => by
    have hp : (2 : Nat) ^ q ≤ 2 ^ 11 := Nat.pow_le_pow_right (by omega) (by omega)
    rw [Nat.pow_succ, Nat.mul_comm, cntP_two v (2 ^ q) (by omega), cntP_pow q (v + 1) (by omega), cntP_pow q v (by omega), wV_share]
theorem cntP_le (v : Nat) : ∀ m, cntP v m ≤ m
  | 0 => Nat.le_refl _
  | m + 1 => by
    have := cntP_le v m
    show cntP v m + (if pop m < v then 1 else 0) ≤ m + 1
    split <;> omega
/-- The weight so far: behind m sets, and k values of the next one. -/
def cnS (row : List Int) (m : Nat) : Nat → Nat
  | 0 => 0
  | k + 1 => cnS row m k + cntP (row.getD k 0).toNat m
def cnT (row : List Int) (m : Nat) : Nat → Nat
  | 0 => 0
  | k + 1 => cnT row m k + (if (pop m : Int) < row.getD k 0 then 1 else 0)
theorem cn_next {row : List Int} (h : ∀ k, k < row.length → 0 ≤ row.getD k 0) (m : Nat) : ∀ k, k ≤ row.length → cnS row (m + 1) k = cnS row m k + cnT row m k
  | 0, _ => rfl
  | k + 1, hk => by
    have ih := cn_next h m k (by omega)
    have h0 := h k (by omega)
    show cnS row (m + 1) k + (cntP (row.getD k 0).toNat m + (if pop m < (row.getD k 0).toNat then 1 else 0)) = (cnS row m k + cntP (row.getD k 0).toNat m) + (cnT row m k + (if (pop m : Int) < row.getD k 0 then 1 else 0))
    rw [ih]
    have : (pop m < (row.getD k 0).toNat) ↔ ((pop m : Int) < row.getD k 0) := by omega
    simp only [this]
    omega
theorem cn_none (row : List Int) : ∀ k, cnS row 0 k = 0
  | 0 => rfl
  | k + 1 => by show cnS row 0 k + 0 = 0; rw [cn_none row k]
theorem cn_end {row : List Int} {q : Nat} (hq : q ≤ 12) : ∀ k, cnS row (2 ^ q) k = wK row q k
  | 0 => rfl
  | k + 1 => by
    show cnS row (2 ^ q) k + cntP (row.getD k 0).toNat (2 ^ q) = wK row q k + wV q (row.getD k 0).toNat
    rw [cn_end hq k, cntP_pow q _ hq]
theorem cnT_le (row : List Int) (m : Nat) : ∀ k, cnT row m k ≤ k
  | 0 => Nat.le_refl _
  | k + 1 => by
    have := cnT_le row m k
    show cnT row m k + (if (pop m : Int) < row.getD k 0 then 1 else 0) ≤ k + 1
    split <;> omega
theorem cnS_le (row : List Int) (m : Nat) : ∀ k, cnS row m k ≤ k * m
  | 0 => by simp [cnS]
  | k + 1 => by
    have := cnS_le row m k
    have := cntP_le (row.getD k 0).toNat m
    show cnS row m k + cntP (row.getD k 0).toNat m ≤ (k + 1) * m
    rw [Nat.add_mul]
    omega

end Go.Proofs.Ythfikgaghinfbaa
