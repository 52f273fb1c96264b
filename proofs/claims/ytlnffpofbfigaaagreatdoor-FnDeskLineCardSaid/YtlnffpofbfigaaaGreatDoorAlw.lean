/-
  What chapter 5 says, as plain numbers: the triples of values by their place in the order by a, by b, by c; the least value, whether a formula always holds, the first place against it, whether two are the same. No program is named.
-/
import Derived.Test.YtlnffpofbfigaaaGreatDoorFVal
namespace Go.Proofs.YtlnffpofbfigaaaGreatDoor

def tA (n k : Nat) : Nat := k / (n + 1) / (n + 1) % (n + 1)
def tB (n k : Nat) : Nat := k / (n + 1) % (n + 1)
def tC (n k : Nat) : Nat := k % (n + 1)
def cub (n : Nat) : Nat := (n + 1) * (n + 1) * (n + 1)
def idx (n a b c : Nat) : Nat := (a * (n + 1) + b) * (n + 1) + c
def atK (n : Nat) (t : Tr) (k : Nat) : Int := t.val n (tA n k) (tB n k) (tC n k)

theorem tA_le (n k : Nat) : tA n k ≤ n := by have := Nat.mod_lt (k / (n + 1) / (n + 1)) (show 0 < n + 1 by omega); unfold tA; omega
theorem tB_le (n k : Nat) : tB n k ≤ n := by have := Nat.mod_lt (k / (n + 1)) (show 0 < n + 1 by omega); unfold tB; omega
theorem tC_le (n k : Nat) : tC n k ≤ n := by have := Nat.mod_lt k (show 0 < n + 1 by omega); unfold tC; omega
theorem thr_nat {n a b c : Nat} (h : 1 ≤ n ∧ n ≤ 6) (ha : a ≤ n) (hb : b ≤ n) (hc : c ≤ n) : thrB n a b c = true :=
  thrB_mk (vokB_t (by omega)) (vokB_t (by omega)) (vokB_t (by omega))
theorem tri_ok {n : Nat} (h : 1 ≤ n ∧ n ≤ 6) (k : Nat) : thrB n (tA n k) (tB n k) (tC n k) = true := thr_nat h (tA_le n k) (tB_le n k) (tC_le n k)
theorem atK_ok {n : Nat} (h : 1 ≤ n ∧ n ≤ 6) (t : Tr) (k : Nat) : vokB n (atK n t k) = true := val_ok (tri_ok h k) t

theorem div_step {m x c : Nat} (hm : 0 < m) (hc : c < m) : (x * m + c) / m = x := by
  rw [Nat.mul_comm x m, Nat.mul_add_div hm, Nat.div_eq_of_lt hc]; rfl
theorem mod_step {m x c : Nat} (hc : c < m) : (x * m + c) % m = c := by
  rw [Nat.mul_comm x m, Nat.mul_add_mod, Nat.mod_eq_of_lt hc]
theorem idx_A {n a b c : Nat} (ha : a ≤ n) (hb : b ≤ n) (hc : c ≤ n) : tA n (idx n a b c) = a := by
  unfold tA idx
  rw [div_step (by omega) (by omega), div_step (by omega) (by omega), Nat.mod_eq_of_lt (by omega)]
theorem idx_B {n a b c : Nat} (hb : b ≤ n) (hc : c ≤ n) : tB n (idx n a b c) = b := by
  unfold tB idx
  rw [div_step (by omega) (by omega), mod_step (by omega)]
theorem idx_C {n a b c : Nat} (hc : c ≤ n) : tC n (idx n a b c) = c := by
  unfold tC idx
  rw [mod_step (by omega)]
theorem idx_lt {n a b c : Nat} (ha : a ≤ n) (hb : b ≤ n) (hc : c ≤ n) : idx n a b c < cub n := by
  unfold idx cub
  have h1 : (a + 1) * (n + 1) ≤ (n + 1) * (n + 1) := Nat.mul_le_mul_right _ (by omega)
  have h2 : (a * (n + 1) + b + 1) * (n + 1) ≤ (n + 1) * (n + 1) * (n + 1) := Nat.mul_le_mul_right _ (by rw [Nat.add_mul] at h1; omega)
  rw [Nat.add_mul] at h2
  omega
theorem atK_idx {n a b c : Nat} (t : Tr) (ha : a ≤ n) (hb : b ≤ n) (hc : c ≤ n) : atK n t (idx n a b c) = t.val n a b c := by
  unfold atK
  rw [idx_A ha hb hc, idx_B hb hc, idx_C hc]
theorem tA_eq {n k : Nat} (h : k < cub n) : tA n k = k / (n + 1) / (n + 1) := by
  unfold tA
  refine Nat.mod_eq_of_lt ?_
  rw [Nat.div_lt_iff_lt_mul (by omega), Nat.div_lt_iff_lt_mul (by omega)]
  exact h
theorem idx_c (n a b c : Nat) : idx n a b (c + 1) = idx n a b c + 1 := rfl
theorem idx_b (n a b : Nat) : idx n a (b + 1) 0 = idx n a b (n + 1) := by
  unfold idx
  rw [← Nat.add_assoc (a * (n + 1)) b 1, Nat.add_mul _ 1]
  omega
theorem idx_a (n a : Nat) : idx n (a + 1) 0 0 = idx n a (n + 1) 0 := by
  unfold idx
  rw [Nat.add_mul a 1, Nat.one_mul]; rfl
theorem idx_0 (n : Nat) : idx n 0 0 0 = 0 := by unfold idx; simp
theorem idx_end (n : Nat) : idx n (n + 1) 0 0 = cub n := by unfold idx cub; rfl
theorem cub_le {n : Nat} (h : n ≤ 6) : cub n ≤ 343 := by
  have h1 : (n + 1) * (n + 1) ≤ 7 * 7 := Nat.mul_le_mul (by omega) (by omega)
  exact Nat.mul_le_mul h1 (show n + 1 ≤ 7 by omega)

/-- The least value over the first places. -/
def lowU (n : Nat) (t : Tr) : Nat → Int
  | 0 => n
  | k + 1 => if lowU n t k ≤ atK n t k then lowU n t k else atK n t k
theorem lowU_s1 {n : Nat} {t : Tr} {k : Nat} (h : lowU n t k ≤ atK n t k) : lowU n t (k + 1) = lowU n t k := if_pos h
theorem lowU_s2 {n : Nat} {t : Tr} {k : Nat} (h : ¬ lowU n t k ≤ atK n t k) : lowU n t (k + 1) = atK n t k := if_neg h
theorem lowU_top (n : Nat) (t : Tr) : ∀ K, lowU n t K ≤ n := by
  intro K
  induction K with
  | zero => exact Int.le_refl _
  | succ k ih =>
    by_cases h : lowU n t k ≤ atK n t k
    · rw [lowU_s1 h]; exact ih
    · rw [lowU_s2 h]; omega
theorem lowU_le (n : Nat) (t : Tr) : ∀ K k, k < K → lowU n t K ≤ atK n t k := by
  intro K
  induction K with
  | zero => intro k hk; omega
  | succ K ih =>
    intro k hk
    by_cases h : lowU n t K ≤ atK n t K
    · rw [lowU_s1 h]
      by_cases e : k = K
      · rw [e]; exact h
      · exact ih k (by omega)
    · rw [lowU_s2 h]
      by_cases e : k = K
      · rw [e]; exact Int.le_refl _
      · have := ih k (by omega); omega
theorem lowU_some (n : Nat) (t : Tr) : ∀ K, lowU n t K = n ∨ ∃ k, k < K ∧ lowU n t K = atK n t k := by
  intro K
  induction K with
  | zero => exact .inl rfl
  | succ K ih =>
    by_cases h : lowU n t K ≤ atK n t K
    · rw [lowU_s1 h]
      rcases ih with h1 | ⟨k, hk, h1⟩
      · exact .inl h1
      · exact .inr ⟨k, by omega, h1⟩
    · rw [lowU_s2 h]; exact .inr ⟨K, by omega, rfl⟩
theorem lowU_ok {n : Nat} (h : 1 ≤ n ∧ n ≤ 6) (t : Tr) (K : Nat) : vokB n (lowU n t K) = true := by
  rcases lowU_some n t K with e | ⟨k, _, e⟩
  · rw [e]; exact vokB_t (by omega)
  · rw [e]; exact atK_ok h t k

/-- Whether it is true at all places. -/
def alwT (n : Nat) (t : Tr) : Bool := (List.range (cub n)).all fun k => atK n t k == (n : Int)
theorem alwT_of {n : Nat} {t : Tr} (h : alwT n t = true) {k : Nat} (hk : k < cub n) : atK n t k = n := by
  unfold alwT at h
  rw [List.all_eq_true] at h
  exact eq_of_beq (h k (List.mem_range.2 hk))
theorem alwT_mk {n : Nat} {t : Tr} (h : ∀ k, k < cub n → atK n t k = n) : alwT n t = true := by
  unfold alwT
  rw [List.all_eq_true]
  intro k hk
  rw [h k (List.mem_range.1 hk)]
  exact beq_self_eq_true _
theorem alwT_no {n : Nat} {t : Tr} {k : Nat} (hk : k < cub n) (h : atK n t k ≠ n) : alwT n t = false := by
  cases e : alwT n t
  · rfl
  · exact absurd (alwT_of e hk) h
theorem alwT_val {n : Nat} {t : Tr} (h : alwT n t = true) {a b c : Nat} (ha : a ≤ n) (hb : b ≤ n) (hc : c ≤ n) : t.val n a b c = n := by
  rw [← atK_idx t ha hb hc]; exact alwT_of h (idx_lt ha hb hc)
theorem atK_le {n : Nat} (h : 1 ≤ n ∧ n ≤ 6) (t : Tr) (k : Nat) : 0 ≤ atK n t k ∧ atK n t k ≤ n := by have := vokB_of (atK_ok h t k); omega
theorem low_alw {n : Nat} (hn : 1 ≤ n ∧ n ≤ 6) (t : Tr) : (lowU n t (cub n) == (n : Int)) = alwT n t := by
  cases e : alwT n t
  · refine beq_eq_false_iff_ne.2 fun h => ?_
    have : alwT n t = true := alwT_mk fun k hk => by
      have h1 := lowU_le n t (cub n) k hk
      have h2 := atK_le hn t k
      omega
    rw [e] at this; cases this
  · rcases lowU_some n t (cub n) with h | ⟨k, hk, h⟩
    · rw [h]; exact beq_self_eq_true _
    · rw [h, alwT_of e hk]; exact beq_self_eq_true _

/-- The first place at which it is not true. -/
def agN (n : Nat) (t : Tr) : Option Nat := (List.range (cub n)).find? fun k => !(atK n t k == (n : Int))
theorem agN_at {n : Nat} {t : Tr} {k : Nat} (hk : k < cub n) (h : ∀ j, j < k → atK n t j = n) (h' : atK n t k ≠ n) : agN n t = some k := by
  unfold agN
  rw [List.find?_range_eq_some]
  refine ⟨?_, List.mem_range.2 hk, fun j hj => ?_⟩
  · rw [beq_eq_false_iff_ne.2 h']; rfl
  · rw [h j hj]; simp
theorem agN_no {n : Nat} {t : Tr} (h : ∀ j, j < cub n → atK n t j = n) : agN n t = none := by
  unfold agN
  rw [List.find?_eq_none]
  intro j hj
  rw [h j (List.mem_range.1 hj)]
  simp
theorem agN_alw (n : Nat) (t : Tr) : (agN n t).isNone = alwT n t := by
  cases e : alwT n t
  · cases h : agN n t with
    | some k => rfl
    | none =>
      unfold agN at h
      rw [List.find?_eq_none] at h
      have : alwT n t = true := alwT_mk fun k hk => by
        have := h k (List.mem_range.2 hk)
        simpa using this
      rw [e] at this; cases this
  · rw [agN_no fun j hj => alwT_of e hj]; rfl
theorem agN_some {n : Nat} {t : Tr} {k : Nat} (h : agN n t = some k) : k < cub n ∧ atK n t k ≠ n := by
  unfold agN at h
  rw [List.find?_range_eq_some] at h
  refine ⟨List.mem_range.1 h.2.1, fun e => ?_⟩
  have h1 := h.1
  rw [e] at h1
  simp at h1

/-- Whether both have the same value at all places. -/
def sameT (n : Nat) (t u : Tr) : Bool := (List.range (cub n)).all fun k => atK n t k == atK n u k
theorem sameT_mk {n : Nat} {t u : Tr} (h : ∀ k, k < cub n → atK n t k = atK n u k) : sameT n t u = true := by
  unfold sameT
  rw [List.all_eq_true]
  intro k hk
  rw [h k (List.mem_range.1 hk)]
  exact beq_self_eq_true _
theorem sameT_of {n : Nat} {t u : Tr} (h : sameT n t u = true) {k : Nat} (hk : k < cub n) : atK n t k = atK n u k := by
  unfold sameT at h
  rw [List.all_eq_true] at h
  exact eq_of_beq (h k (List.mem_range.2 hk))
theorem sameT_no {n : Nat} {t u : Tr} {k : Nat} (hk : k < cub n) (h : atK n t k ≠ atK n u k) : sameT n t u = false := by
  cases e : sameT n t u
  · rfl
  · exact absurd (sameT_of e hk) h

/-! What the functions answer. -/
def leastI (n : Int) (l : List UInt8) : Int :=
  match fOf l with
  | none => -1
  | some t => if inB n 1 6 = true then lowU n.toNat t (cub n.toNat) else -1
def alwB (n : Int) (l : List UInt8) : Bool :=
  match fOf l with
  | none => false
  | some t => inB n 1 6 && alwT n.toNat t
def agI (n : Int) (l : List UInt8) : Option Nat :=
  match fOf l with
  | none => none
  | some t => if inB n 1 6 = true then agN n.toNat t else none
def sameI (n : Int) (l m : List UInt8) : Bool :=
  match fOf l, fOf m with
  | some t, some u => inB n 1 6 && sameT n.toNat t u
  | _, _ => false
def chI (l : List UInt8) : List Int := ([1, 2, 3, 4, 5, 6] : List Int).filter fun n => alwB n l

theorem leastI_n {n : Int} {l : List UInt8} (h : fOf l = none) : leastI n l = -1 := by unfold leastI; rw [h]
theorem leastI_o {n : Int} {l : List UInt8} (h : inB n 1 6 = false) : leastI n l = -1 := by
  unfold leastI
  split
  · rfl
  · rw [h]; rfl
theorem leastI_t {n : Nat} {l : List UInt8} {t : Tr} (h : fOf l = some t) (hn : inB n 1 6 = true) : leastI n l = lowU n t (cub n) := by
  unfold leastI; rw [h]; simp only [hn, if_true, Int.toNat_natCast]
theorem alwB_n {n : Int} {l : List UInt8} (h : fOf l = none) : alwB n l = false := by unfold alwB; rw [h]
theorem alwB_o {n : Int} {l : List UInt8} (h : inB n 1 6 = false) : alwB n l = false := by
  unfold alwB
  split
  · rfl
  · rw [h]; rfl
theorem alwB_t {n : Nat} {l : List UInt8} {t : Tr} (h : fOf l = some t) (hn : inB n 1 6 = true) : alwB n l = alwT n t := by
  unfold alwB; rw [h]; simp only [hn, Bool.true_and, Int.toNat_natCast]
theorem agI_n {n : Int} {l : List UInt8} (h : fOf l = none) : agI n l = none := by unfold agI; rw [h]
theorem agI_o {n : Int} {l : List UInt8} (h : inB n 1 6 = false) : agI n l = none := by
  unfold agI
  split
  · rfl
  · rw [h]; rfl
theorem agI_t {n : Nat} {l : List UInt8} {t : Tr} (h : fOf l = some t) (hn : inB n 1 6 = true) : agI n l = agN n t := by
  unfold agI; rw [h]; simp only [hn, if_true, Int.toNat_natCast]
theorem sameI_n {n : Int} {l m : List UInt8} (h : fOf l = none) : sameI n l m = false := by unfold sameI; rw [h]
theorem sameI_m {n : Int} {l m : List UInt8} (h : fOf m = none) : sameI n l m = false := by
  unfold sameI
  rw [h]
  split
  · contradiction
  · rfl
theorem sameI_o {n : Int} {l m : List UInt8} (h : inB n 1 6 = false) : sameI n l m = false := by
  unfold sameI
  split
  · rw [h]; rfl
  · rfl
theorem sameI_t {n : Nat} {l m : List UInt8} {t u : Tr} (h : fOf l = some t) (k : fOf m = some u) (hn : inB n 1 6 = true) : sameI n l m = sameT n t u := by
  unfold sameI; rw [h, k]; simp only [hn, Bool.true_and, Int.toNat_natCast]

end Go.Proofs.YtlnffpofbfigaaaGreatDoor
