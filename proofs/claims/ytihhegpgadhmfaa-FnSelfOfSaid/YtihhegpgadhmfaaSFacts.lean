/-
  What the promises of chapter 2 say of plain numbers.
-/
import Derived.Test.YtihhegpgadhmfaaSignI
namespace Go.Proofs.Ytihhegpgadhmfaa
open Go.RowKit

theorem not_facts {n a : Int} (h : vokB n a = true) : 0 ≤ notW n a ∧ notW n (notW n a) = a ∧ folW n a 0 = notW n a ∧ vokB n (notW n a) = true := by
  have k := vokB_of h
  have hx := notW_t h
  have hv : vokB n (n - a) = true := vokB_t (by omega)
  have ht : twoB n a 0 = true := twoB_t (by omega)
  rw [hx, notW_t hv]
  refine ⟨by omega, by omega, ?_, hv⟩
  unfold folW
  rw [if_pos ht]
  split <;> omega

theorem fol_facts {n a b : Int} (h : twoB n a b = true) : 0 ≤ folW n a b ∧ (a ≤ b → folW n a b = n) ∧ (¬ a ≤ b → folW n a b < n) ∧ plusW n (notW n a) b = folW n a b ∧ folW n (notW n b) (notW n a) = folW n a b := by
  obtain ⟨h1, h2, k⟩ := twoB_of h
  have e1 := notW_t h1
  have e2 := notW_t h2
  rw [e1, e2]
  have t1 : twoB n (n - a) b = true := twoB_t (by omega)
  have t2 : twoB n (n - b) (n - a) = true := twoB_t (by omega)
  unfold folW plusW
  rw [if_pos h, if_pos t1, if_pos t2]
  refine ⟨?_, ?_, ?_, ?_, ?_⟩
  all_goals (repeat' split) <;> omega

theorem plus_facts {n a b : Int} (h : twoB n a b = true) : 0 ≤ plusW n a b ∧ plusW n b a = plusW n a b ∧ plusW n a 0 = a ∧ plusW n a n = n ∧ plusW n (notW n (plusW n (notW n a) b)) b = greatW n a b := by
  obtain ⟨h1, h2, k⟩ := twoB_of h
  have e1 := notW_t h1
  rw [e1]
  have t1 : twoB n (n - a) b = true := twoB_t (by omega)
  have p1 := plusW_ok t1
  have e3 : notW n (plusW n (n - a) b) = n - plusW n (n - a) b := notW_t (vokB_t (by omega))
  rw [e3]
  have t2 : twoB n b a = true := twoB_t (by omega)
  have t3 : twoB n a 0 = true := twoB_t (by omega)
  have t4 : twoB n a n = true := twoB_t (by omega)
  have t5 : twoB n (n - plusW n (n - a) b) b = true := twoB_t (by omega)
  have v1 : plusW n (n - a) b = if n - a + b ≤ n then n - a + b else n := if_pos t1
  have v2 : plusW n a b = if a + b ≤ n then a + b else n := if_pos h
  have v3 : plusW n b a = if b + a ≤ n then b + a else n := if_pos t2
  have v4 : plusW n a 0 = if a + 0 ≤ n then a + 0 else n := if_pos t3
  have v5 : plusW n a n = if a + n ≤ n then a + n else n := if_pos t4
  have v6 : plusW n (n - plusW n (n - a) b) b = if n - plusW n (n - a) b + b ≤ n then n - plusW n (n - a) b + b else n := if_pos t5
  have v7 : greatW n a b = if a ≤ b then b else a := if_pos h
  refine ⟨?_, ?_, ?_, ?_, ?_⟩
  · omega
  · omega
  · omega
  · omega
  · omega

theorem plus_assoc {n a b c : Int} (h : twoB n a b = true) (hc : 0 ≤ c ∧ c ≤ n) : plusW n (plusW n a b) c = plusW n a (plusW n b c) := by
  obtain ⟨h1, h2, k⟩ := twoB_of h
  have t1 : twoB n b c = true := twoB_t (by omega)
  have p1 := plusW_ok h
  have p2 := plusW_ok t1
  have t2 : twoB n (plusW n a b) c = true := twoB_t (by omega)
  have t3 : twoB n a (plusW n b c) = true := twoB_t (by omega)
  have v1 : plusW n a b = if a + b ≤ n then a + b else n := if_pos h
  have v2 : plusW n b c = if b + c ≤ n then b + c else n := if_pos t1
  have v3 : plusW n (plusW n a b) c = if plusW n a b + c ≤ n then plusW n a b + c else n := if_pos t2
  have v4 : plusW n a (plusW n b c) = if a + plusW n b c ≤ n then a + plusW n b c else n := if_pos t3
  omega

theorem times_facts {n a b : Int} (h : twoB n a b = true) : 0 ≤ timesW n a b ∧ notW n (plusW n (notW n a) (notW n b)) = timesW n a b := by
  obtain ⟨h1, h2, k⟩ := twoB_of h
  rw [notW_t h1, notW_t h2]
  have t1 : twoB n (n - a) (n - b) = true := twoB_t (by omega)
  have p1 := plusW_ok t1
  rw [notW_t (vokB_t (by omega))]
  have v1 : plusW n (n - a) (n - b) = if n - a + (n - b) ≤ n then n - a + (n - b) else n := if_pos t1
  have v2 : timesW n a b = if 0 ≤ a + b - n then a + b - n else 0 := if_pos h
  omega

theorem times_fol {n a b c : Int} (h : twoB n a b = true) (hc : 0 ≤ c ∧ c ≤ n) : a ≤ folW n b c ↔ timesW n a b ≤ c := by
  obtain ⟨h1, h2, k⟩ := twoB_of h
  have t1 : twoB n b c = true := twoB_t (by omega)
  have v1 : folW n b c = if n - b + c ≤ n then n - b + c else n := if_pos t1
  have v2 : timesW n a b = if 0 ≤ a + b - n then a + b - n else 0 := if_pos h
  omega

theorem less_facts {n a b : Int} (h : twoB n a b = true) : 0 ≤ lessW n a b ∧ timesW n a (folW n a b) = lessW n a b ∧ notW n (greatW n (notW n a) (notW n b)) = lessW n a b ∧ lessW n a b ≤ a ∧ lessW n a b ≤ b := by
  obtain ⟨h1, h2, k⟩ := twoB_of h
  rw [notW_t h1, notW_t h2]
  have t1 : twoB n (n - a) (n - b) = true := twoB_t (by omega)
  have p1 := greatW_ok t1
  have p2 := folW_ok h
  have t2 : twoB n a (folW n a b) = true := twoB_t (by omega)
  rw [notW_t (vokB_t (by omega))]
  have v1 : greatW n (n - a) (n - b) = if n - a ≤ n - b then n - b else n - a := if_pos t1
  have v2 : folW n a b = if n - a + b ≤ n then n - a + b else n := if_pos h
  have v3 : timesW n a (folW n a b) = if 0 ≤ a + folW n a b - n then a + folW n a b - n else 0 := if_pos t2
  have v4 : lessW n a b = if a ≤ b then a else b := if_pos h
  omega

theorem great_facts {n a b : Int} (h : twoB n a b = true) : 0 ≤ greatW n a b ∧ folW n (folW n a b) b = greatW n a b ∧ greatW n b a = greatW n a b ∧ a ≤ greatW n a b ∧ b ≤ greatW n a b := by
  obtain ⟨h1, h2, k⟩ := twoB_of h
  have p2 := folW_ok h
  have t2 : twoB n (folW n a b) b = true := twoB_t (by omega)
  have t3 : twoB n b a = true := twoB_t (by omega)
  have v1 : greatW n a b = if a ≤ b then b else a := if_pos h
  have v2 : folW n a b = if n - a + b ≤ n then n - a + b else n := if_pos h
  have v3 : folW n (folW n a b) b = if n - folW n a b + b ≤ n then n - folW n a b + b else n := if_pos t2
  have v4 : greatW n b a = if b ≤ a then a else b := if_pos t3
  omega

theorem manyN_top (n : Int) (h : vokB n n = true) : ∀ k, manyN n n k = n
  | 0 => rfl
  | k + 1 => by
    have ih := manyN_top n h k
    have v : timesW n n n = if 0 ≤ n + n - n then n + n - n else 0 := if_pos (twoB_mk h h)
    have kk := vokB_of h
    unfold manyN
    rw [ih]
    omega
theorem manyN_low {n a : Int} (h : vokB n a = true) (ha : a ≠ n) : ∀ k : Nat, manyN n a k = 0 ∨ manyN n a k ≤ n - k
  | 0 => by unfold manyN; omega
  | k + 1 => by
    have ih := manyN_low h ha k
    have ok := manyN_ok h k
    have k1 := vokB_of h
    have k2 := vokB_of ok
    have v : timesW n (manyN n a k) a = if 0 ≤ manyN n a k + a - n then manyN n a k + a - n else 0 := if_pos (twoB_mk ok h)
    unfold manyN
    omega

theorem many_facts {n a t : Int} (h : vokB n a = true) (ht : inB t 0 9 = true) :
    0 ≤ manyW n a t ∧ (a = n → manyW n a t = n) ∧ (a ≠ n → n ≤ t → manyW n a t = 0) ∧ (t ≠ 9 → manyW n a (t + 1) = timesW n (manyW n a t) a) ∧ manyW n a 0 = n := by
  have k := vokB_of h
  have kt := inB_of ht
  have e := manyW_t h ht
  have ok := vokB_of (manyN_ok h t.toNat)
  refine ⟨by omega, ?_, ?_, ?_, ?_⟩
  · intro hh
    rw [e]
    have h' := h
    rw [hh] at h'
    rw [hh, manyN_top n h']
  · intro hh hle
    have := manyN_low h hh t.toNat
    omega
  · intro hh
    rw [e, manyW_t h (inB_t (by omega)), show (t + 1).toNat = t.toNat + 1 from by omega]
    rfl
  · rw [manyW_t h (inB_t (by omega))]
    rfl

end Go.Proofs.Ytihhegpgadhmfaa
