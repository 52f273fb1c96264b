/-
  What follows of premises, as trees over the values of the letters by their places: follows, counts, powers, the formula that tells that one follows of the other. No program is named.
-/
import Derived.Test.YtlnffpofbfigaaaGreatDoorAlwF
import Derived.Test.YtlnffpofbfigaaaGreatDoorSignI
namespace Go.Proofs.YtlnffpofbfigaaaGreatDoor

def truK (n : Nat) (t : Tr) (k : Nat) : Bool := atK n t k == (n : Int)
def allK (n : Nat) (ts : List Tr) (k : Nat) : Bool := ts.all fun t => truK n t k
def folK (n : Nat) (ts : List Tr) (t : Tr) : Bool := (List.range (cub n)).all fun k => !allK n ts k || truK n t k
def cntK (n : Nat) (ts : List Tr) : Nat → Nat
  | 0 => 0
  | k + 1 => if allK n ts k then cntK n ts k + 1 else cntK n ts k
theorem cntK_hit {n : Nat} {ts : List Tr} {k : Nat} (h : allK n ts k = true) : cntK n ts (k + 1) = cntK n ts k + 1 := if_pos h
theorem cntK_miss {n : Nat} {ts : List Tr} {k : Nat} (h : allK n ts k = false) : cntK n ts (k + 1) = cntK n ts k := if_neg (by rw [h]; decide)
theorem cntK_le (n : Nat) (ts : List Tr) : ∀ k, cntK n ts k ≤ k := by
  intro k
  induction k with
  | zero => exact Nat.le_refl _
  | succ k ih =>
    cases h : allK n ts k
    · rw [cntK_miss h]; omega
    · rw [cntK_hit h]; omega
theorem folK_of {n : Nat} {ts : List Tr} {t : Tr} (h : folK n ts t = true) {k : Nat} (hk : k < cub n) (ha : allK n ts k = true) : truK n t k = true := by
  unfold folK at h
  rw [List.all_eq_true] at h
  have := h k (List.mem_range.2 hk)
  rw [ha] at this
  simpa using this
theorem folK_mk {n : Nat} {ts : List Tr} {t : Tr} (h : ∀ k, k < cub n → allK n ts k = true → truK n t k = true) : folK n ts t = true := by
  unfold folK
  rw [List.all_eq_true]
  intro k hk
  cases ha : allK n ts k
  · rfl
  · rw [h k (List.mem_range.1 hk) ha]; rfl
theorem folK_no {n : Nat} {ts : List Tr} {t : Tr} {k : Nat} (hk : k < cub n) (ha : allK n ts k = true) (ht : truK n t k = false) : folK n ts t = false := by
  cases h : folK n ts t
  · rfl
  · rw [folK_of h hk ha] at ht; cases ht
/-- Each premise follows. -/
theorem folK_mem {n : Nat} {ts : List Tr} {t : Tr} (h : t ∈ ts) : folK n ts t = true := folK_mk fun k _ ha => by
  unfold allK at ha
  rw [List.all_eq_true] at ha
  exact ha t h
/-- Without premises just what always holds does. -/
theorem folK_nil (n : Nat) (t : Tr) : folK n [] t = alwT n t := by
  cases h : alwT n t
  · cases h' : folK n [] t
    · rfl
    · rw [← h]
      symm
      refine alwT_mk fun k hk => ?_
      have := folK_of h' hk rfl
      unfold truK at this
      exact eq_of_beq this
  · refine folK_mk fun k hk _ => ?_
    unfold truK
    rw [alwT_of h hk]
    exact beq_self_eq_true _
/-- With one premise fewer no more follows. -/
theorem folK_tail {n : Nat} {x : Tr} {ts : List Tr} {t : Tr} (h : folK n ts t = true) : folK n (x :: ts) t = true := folK_mk fun k hk ha => by
  unfold allK at ha
  rw [List.all_cons, Bool.and_eq_true] at ha
  exact folK_of h hk ha.2
theorem cntK_nil (n : Nat) : ∀ k, cntK n [] k = k := by
  intro k
  induction k with
  | zero => rfl
  | succ k ih => rw [cntK_hit rfl, ih]
theorem cntK_tail (n : Nat) (x : Tr) (ts : List Tr) : ∀ k, cntK n (x :: ts) k ≤ cntK n ts k := by
  intro k
  induction k with
  | zero => exact Nat.le_refl _
  | succ k ih =>
    cases h : allK n ts k
    · have h2 : allK n (x :: ts) k = false := by
        unfold allK at h ⊢
        rw [List.all_cons, h, Bool.and_false]
      rw [cntK_miss h, cntK_miss h2]
      exact ih
    · rw [cntK_hit h]
      cases h2 : allK n (x :: ts) k
      · rw [cntK_miss h2]; omega
      · rw [cntK_hit h2]; omega
theorem cntK_none {n : Nat} {ts : List Tr} : ∀ K, cntK n ts K = 0 ↔ ∀ k, k < K → allK n ts k = false := by
  intro K
  induction K with
  | zero => exact ⟨fun _ k hk => absurd hk (by omega), fun _ => rfl⟩
  | succ K ih =>
    cases h : allK n ts K
    · rw [cntK_miss h, ih]
      refine ⟨fun g k hk => ?_, fun g k hk => g k (by omega)⟩
      by_cases e : k < K
      · exact g k e
      · obtain rfl : k = K := by omega
        exact h
    · rw [cntK_hit h]
      refine ⟨fun g => absurd g (by omega), fun g => ?_⟩
      have := g K (by omega)
      rw [h] at this
      cases this
theorem truK_zero {n : Nat} (hn : 1 ≤ n) (k : Nat) : truK n (.tru false) k = false := by
  unfold truK
  rw [beq_eq_false_iff_ne]
  show (0 : Int) ≠ (n : Int)
  omega
/-- Of what is never true all follows. -/
theorem cnt_zero {n : Nat} (hn : 1 ≤ n) (ts : List Tr) : (cntK n ts (cub n) == 0) = folK n ts (.tru false) := by
  cases h : folK n ts (.tru false)
  · rw [beq_eq_false_iff_ne]
    intro e
    rw [cntK_none] at e
    have : folK n ts (.tru false) = true := folK_mk fun k hk ha => by rw [e k hk] at ha; cases ha
    rw [this] at h
    cases h
  · rw [beq_iff_eq, cntK_none]
    intro k hk
    cases ha : allK n ts k
    · rfl
    · have := folK_of h hk ha
      rw [truK_zero hn] at this
      cases this

/-- A formula taken together with itself: the text for one more time. -/
def powN (t : Tr) : Nat → Tr
  | 0 => t
  | k + 1 => .bin .times t (powN t k)
theorem powN_len (t : Tr) : ∀ k, (powN t k).txt.length = (k + 1) * t.txt.length + 3 * k := by
  intro k
  induction k with
  | zero => simp [powN]
  | succ k ih =>
    show (Tr.bin .times t (powN t k)).txt.length = _
    simp only [Tr.txt, List.length_cons, List.length_append, List.length_nil, ih, Nat.succ_mul]
    omega
def dedN (n : Nat) (s t : Tr) : Tr := .bin .fol (powN s (n - 1)) t
/-- Taken together with itself as often as there are steps only the truth is left. -/
theorem powN_val {n : Nat} (hn : 1 ≤ n ∧ n ≤ 6) (t : Tr) (k : Nat) (m : Nat) : atK n (powN t m) k = manyN n (atK n t k) (m + 1) := by
  have hv := atK_ok hn t k
  have hb := vokB_of hv
  induction m with
  | zero =>
    show atK n t k = timesW n (manyN n (atK n t k) 0) (atK n t k)
    have h2 : twoB (n : Int) (n : Int) (atK n t k) = true := twoB_t (by omega)
    show _ = timesW n (n : Int) (atK n t k)
    rw [timesW_t h2 (by omega)]
    omega
  | succ m ih =>
    show timesW n (atK n t k) (atK n (powN t m) k) = timesW n (manyN n (atK n t k) (m + 1)) (atK n t k)
    rw [ih]
    have hm := vokB_of (manyN_ok hv (m + 1))
    generalize manyN (n : Int) (atK n t k) (m + 1) = q at *
    have h1 : twoB (n : Int) (atK n t k) q = true := twoB_t (by omega)
    have h2 : twoB (n : Int) q (atK n t k) = true := twoB_t (by omega)
    by_cases hc : 0 ≤ atK n t k + q - n
    · rw [timesW_t h1 hc, timesW_t h2 (by omega)]; omega
    · rw [timesW_e h1 hc, timesW_e h2 (by omega)]
theorem many_tab : ([1, 2, 3, 4, 5, 6].all fun n => (List.range (n + 1)).all fun a => manyN (n : Int) (a : Int) n == if a = n then (n : Int) else 0) = true := by decide +kernel
theorem many_all {n : Nat} (hn : 1 ≤ n ∧ n ≤ 6) {a : Int} (ha : 0 ≤ a ∧ a ≤ n) : manyN n a n = if a = n then (n : Int) else 0 := by
  have h := many_tab
  rw [List.all_eq_true] at h
  have h1 := h n (by simp; omega)
  rw [List.all_eq_true] at h1
  obtain ⟨A, rfl⟩ : ∃ A : Nat, a = (A : Int) := ⟨a.toNat, by omega⟩
  have h2 := eq_of_beq (h1 A (List.mem_range.2 (by omega)))
  rw [h2]
  by_cases e : A = n
  · rw [if_pos e, if_pos (by omega)]
  · rw [if_neg e, if_neg (by omega)]
/-- The formula that tells that t follows of s is true just where t is or s isn't. -/
theorem ded_val {n : Nat} (hn : 1 ≤ n ∧ n ≤ 6) (s t : Tr) (k : Nat) : truK n (dedN n s t) k = (!truK n s k || truK n t k) := by
  have hs := vokB_of (atK_ok hn s k)
  have ht := vokB_of (atK_ok hn t k)
  have hp : atK n (powN s (n - 1)) k = if atK n s k = n then (n : Int) else 0 := by
    rw [powN_val hn, show n - 1 + 1 = n by omega]
    exact many_all hn (by omega)
  unfold truK
  rw [show atK n (dedN n s t) k = folW n (atK n (powN s (n - 1)) k) (atK n t k) from rfl, hp]
  generalize atK n s k = a at *
  generalize atK n t k = b at *
  by_cases e : a = n
  · rw [if_pos e]
    have h2 : twoB (n : Int) (n : Int) b = true := twoB_t (by omega)
    rw [folW_t h2 (by omega), show (n : Int) - n + b = b by omega, e]
    simp
  · rw [if_neg e]
    have h2 : twoB (n : Int) 0 b = true := twoB_t (by omega)
    rw [show (a == (n : Int)) = false by rw [beq_eq_false_iff_ne]; exact e]
    by_cases e2 : (n : Int) - 0 + b ≤ n
    · rw [folW_t h2 e2, show (n : Int) - 0 + b = n by omega]; simp
    · rw [folW_e h2 e2]; simp
/-- Local deduction. -/
theorem ded_fol {n : Nat} (hn : 1 ≤ n ∧ n ≤ 6) (ts : List Tr) (s t : Tr) : folK n ts (dedN n s t) = folK n (ts ++ [s]) t := by
  have hall : ∀ k, allK n (ts ++ [s]) k = (allK n ts k && truK n s k) := fun k => by unfold allK; simp
  cases h : folK n (ts ++ [s]) t
  · cases h' : folK n ts (dedN n s t)
    · rfl
    · rw [← h]
      symm
      refine folK_mk fun k hk ha => ?_
      rw [hall, Bool.and_eq_true] at ha
      have := folK_of h' hk ha.1
      rw [ded_val hn, ha.2] at this
      simpa using this
  · refine folK_mk fun k hk ha => ?_
    rw [ded_val hn]
    cases hs : truK n s k
    · rfl
    · have := folK_of h hk (by rw [hall, ha, hs]; rfl)
      rw [this]
      rfl

end Go.Proofs.YtlnffpofbfigaaaGreatDoor
