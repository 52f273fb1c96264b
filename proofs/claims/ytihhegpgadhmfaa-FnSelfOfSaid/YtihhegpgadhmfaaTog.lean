/-
  What the three ways of taking together answer, as plain numbers, and what the promises of chapter 3 say of them.
-/
import Derived.Test.YtihhegpgadhmfaaSFacts
namespace Go.Proofs.Ytihhegpgadhmfaa
open Go.RowKit

def togV (k n a b : Int) : Int := if k = 0 then timesW n a b else if k = 1 then (if a ≤ b then a else b) else if a = n then b else if b = n then a else 0
def fbV (k n a b : Int) : Int := if k = 0 then (if n - a + b ≤ n then n - a + b else n) else if k = 1 then (if a ≤ b then n else b) else if a ≤ b then n else if a = n then b else n - 1
def wayB (k n a b : Int) : Bool := inB k 0 2 && twoB n a b

theorem wayB_of {k n a b : Int} (h : wayB k n a b = true) : inB k 0 2 = true ∧ twoB n a b = true ∧ (k = 0 ∨ k = 1 ∨ k = 2) ∧ 1 ≤ n ∧ n ≤ 6 ∧ 0 ≤ a ∧ a ≤ n ∧ 0 ≤ b ∧ b ≤ n := by
  unfold wayB at h
  rw [Bool.and_eq_true] at h
  have k1 := inB_of h.1
  have k2 := (twoB_of h.2).2.2
  exact ⟨h.1, h.2, by omega, k2⟩
theorem wayB_mk {k n a b : Int} (h1 : inB k 0 2 = true) (h2 : twoB n a b = true) : wayB k n a b = true := by unfold wayB; rw [h1, h2]; rfl
theorem wayB_t {k n a b : Int} (hk : 0 ≤ k ∧ k ≤ 2) (h : 1 ≤ n ∧ n ≤ 6 ∧ 0 ≤ a ∧ a ≤ n ∧ 0 ≤ b ∧ b ≤ n) : wayB k n a b = true := wayB_mk (inB_t hk) (twoB_t h)
theorem wayB_no {k n a b : Int} (h : wayB k n a b = false) : inB k 0 2 = false ∨ (inB k 0 2 = true ∧ vokB n a = false) ∨ (inB k 0 2 = true ∧ vokB n a = true ∧ vokB n b = false) := by
  unfold wayB twoB at h
  cases h1 : inB k 0 2 <;> cases h2 : vokB n a <;> cases h3 : vokB n b <;> simp_all

def togW (k n a b : Int) : Int := if wayB k n a b = true then togV k n a b else -1
def fbW (k n a b : Int) : Int := if wayB k n a b = true then fbV k n a b else -1
theorem togW_t {k n a b : Int} (h : wayB k n a b = true) : togW k n a b = togV k n a b := if_pos h
theorem togW_f {k n a b : Int} (h : wayB k n a b = false) : togW k n a b = -1 := if_neg (by rw [h]; simp)
theorem fbW_t {k n a b : Int} (h : wayB k n a b = true) : fbW k n a b = fbV k n a b := if_pos h
theorem fbW_f {k n a b : Int} (h : wayB k n a b = false) : fbW k n a b = -1 := if_neg (by rw [h]; simp)

theorem timesV {n a b : Int} (h : twoB n a b = true) : timesW n a b = if 0 ≤ a + b - n then a + b - n else 0 := if_pos h

theorem togV_0 (n a b : Int) : togV 0 n a b = timesW n a b := rfl
theorem togV_1 (n a b : Int) : togV 1 n a b = if a ≤ b then a else b := rfl
theorem togV_2 (n a b : Int) : togV 2 n a b = if a = n then b else if b = n then a else 0 := rfl

theorem fbV_0 (n a b : Int) : fbV 0 n a b = if n - a + b ≤ n then n - a + b else n := rfl
theorem fbV_1 (n a b : Int) : fbV 1 n a b = if a ≤ b then n else b := rfl
theorem fbV_2 (n a b : Int) : fbV 2 n a b = if a ≤ b then n else if a = n then b else n - 1 := rfl

theorem togV_ok {k n a b : Int} (h : wayB k n a b = true) : 0 ≤ togV k n a b ∧ togV k n a b ≤ n ∧ togV k n a b ≤ a ∧ togV k n a b ≤ b := by
  obtain ⟨_, ht, hk, k1⟩ := wayB_of h
  have e := timesV ht
  rcases hk with rfl | rfl | rfl
  · rw [togV_0]; omega
  · rw [togV_1]; omega
  · rw [togV_2]; omega
theorem fbV_ok {k n a b : Int} (h : wayB k n a b = true) : 0 ≤ fbV k n a b ∧ fbV k n a b ≤ n := by
  obtain ⟨_, ht, hk, k1⟩ := wayB_of h
  unfold fbV
  rcases hk with rfl | rfl | rfl <;> simp <;> omega

/-- Following is the other side of taking together. -/
theorem tog_fb {k n a b c : Int} (h : wayB k n a b = true) (hc : 0 ≤ c ∧ c ≤ n) : togV k n a c ≤ b ↔ c ≤ fbV k n a b := by
  obtain ⟨_, ht, hk, k1⟩ := wayB_of h
  have e := timesV (twoB_t (n := n) (a := a) (b := c) (by omega))
  rcases hk with rfl | rfl | rfl
  · rw [togV_0, e, fbV_0]; omega
  · rw [togV_1, fbV_1]; omega
  · rw [togV_2, fbV_2]; omega

theorem tog_comm {k n a b : Int} (h : wayB k n a b = true) : togV k n b a = togV k n a b := by
  obtain ⟨_, ht, hk, k1⟩ := wayB_of h
  have e1 := timesV ht
  have e2 := timesV (twoB_t (n := n) (a := b) (b := a) (by omega))
  rcases hk with rfl | rfl | rfl
  · rw [togV_0, togV_0]; omega
  · rw [togV_1, togV_1]; omega
  · rw [togV_2, togV_2]; omega
theorem tog_top {k n a b : Int} (h : wayB k n a b = true) : togV k n a n = a := by
  obtain ⟨_, ht, hk, k1⟩ := wayB_of h
  have e1 := timesV (twoB_t (n := n) (a := a) (b := n) (by omega))
  rcases hk with rfl | rfl | rfl
  · rw [togV_0]; omega
  · rw [togV_1]; omega
  · rw [togV_2]; omega
theorem tog_assoc {k n a b c : Int} (h : wayB k n a b = true) (hc : 0 ≤ c ∧ c ≤ n) : togV k n (togV k n a b) c = togV k n a (togV k n b c) := by
  obtain ⟨_, ht, hk, k1⟩ := wayB_of h
  have o1 := togV_ok h
  have hbc : wayB k n b c = true := wayB_t (by omega) (by omega)
  have o2 := togV_ok hbc
  rcases hk with rfl | rfl | rfl
  · rw [togV_0] at o1 o2 ⊢
    rw [togV_0, togV_0, togV_0]
    have e1 := timesV ht
    have e2 := timesV (wayB_of hbc).2.1
    have e3 := timesV (twoB_t (n := n) (a := timesW n a b) (b := c) (by omega))
    have e4 := timesV (twoB_t (n := n) (a := a) (b := timesW n b c) (by omega))
    omega
  · simp only [togV_1]; split <;> split <;> (try split) <;> omega
  · simp only [togV_2]; repeat' split
    all_goals omega
theorem tog_mono {k n a b c : Int} (h : wayB k n a b = true) (hc : 0 ≤ c ∧ c ≤ n) (hbc : b ≤ c) : togV k n a b ≤ togV k n a c := by
  obtain ⟨_, ht, hk, k1⟩ := wayB_of h
  have e1 := timesV ht
  have e2 := timesV (twoB_t (n := n) (a := a) (b := c) (by omega))
  rcases hk with rfl | rfl | rfl
  · rw [togV_0, togV_0]; omega
  · rw [togV_1, togV_1]; omega
  · rw [togV_2, togV_2]; omega

theorem fb_top {k n a b : Int} (h : wayB k n a b = true) : fbV k n a b = n ↔ a ≤ b := by
  obtain ⟨_, ht, hk, k1⟩ := wayB_of h
  rcases hk with rfl | rfl | rfl
  · rw [fbV_0]; omega
  · rw [fbV_1]; omega
  · rw [fbV_2]; omega
theorem fb_lack {n a b : Int} (h : wayB 0 n a b = true) : folW n a b = fbV 0 n a b := by
  obtain ⟨_, ht, hk, k1⟩ := wayB_of h
  have v1 : folW n a b = if n - a + b ≤ n then n - a + b else n := if_pos ht
  have v2 : fbV 0 n a b = if n - a + b ≤ n then n - a + b else n := if_pos rfl
  omega

/-- Opposites: once, twice, three times. -/
theorem not_ways {k n a : Int} (h : wayB k n a 0 = true) :
    fbV k n (fbV k n (fbV k n a 0) 0) 0 = fbV k n a 0 ∧ a ≤ fbV k n (fbV k n a 0) 0 ∧ (k = 0 → notW n a = fbV k n a 0) ∧ (k = 1 → (fbV k n a 0 = 0 ↔ 0 < a)) := by
  obtain ⟨_, ht, hk, k1⟩ := wayB_of h
  have e : notW n a = n - a := notW_t (twoB_of ht).1
  rcases hk with rfl | rfl | rfl
  · have v : ∀ x, fbV 0 n x 0 = if n - x + 0 ≤ n then n - x + 0 else n := fun x => if_pos rfl
    simp only [v]
    refine ⟨?_, ?_, ?_, ?_⟩
    · repeat' split
      all_goals omega
    · repeat' split
      all_goals omega
    · intro _; rw [e]; split <;> omega
    · intro h; omega
  · have v : ∀ x, fbV 1 n x 0 = if x ≤ 0 then n else 0 := fun x => by unfold fbV; rw [if_neg (by omega), if_pos rfl]
    simp only [v]
    refine ⟨?_, ?_, ?_, ?_⟩
    · repeat' split
      all_goals omega
    · repeat' split
      all_goals omega
    · intro h; omega
    · intro _; split <;> omega
  · have v : ∀ x, fbV 2 n x 0 = if x ≤ 0 then n else if x = n then 0 else n - 1 := fun x => by unfold fbV; rw [if_neg (by omega), if_neg (by omega)]
    simp only [v]
    refine ⟨?_, ?_, ?_, ?_⟩
    · repeat' split
      all_goals omega
    · repeat' split
      all_goals omega
    · intro h; omega
    · intro h; omega

/-- Divisible. -/
def okD (k n a b : Int) : Prop := togV k n a (fbV k n a b) = if a ≤ b then a else b
def divB (k n : Int) : Bool := inB k 0 2 && inB n 1 6 && (k != 2 || decide (n ≤ 2))
theorem okD_most {k n a b : Int} (h : wayB k n a b = true) (hk : k ≠ 2 ∨ n ≤ 2) : okD k n a b := by
  obtain ⟨_, ht, hkk, k1⟩ := wayB_of h
  have o := fbV_ok h
  unfold okD
  have e := timesV (twoB_t (n := n) (a := a) (b := fbV k n a b) (by omega))
  rcases hkk with rfl | rfl | rfl
  · have f := fbV_0 n a b
    rw [togV_0]; omega
  · have f := fbV_1 n a b
    rw [togV_1]; omega
  · have f := fbV_2 n a b
    rw [togV_2]; omega
theorem okD_not {n : Int} (h : 3 ≤ n) : ¬ okD 2 n 2 1 := by
  unfold okD
  have f := fbV_2 n 2 1
  rw [togV_2]; omega

/-- All rows below a, and in row a all places below b. -/
def okTo (k n a b : Int) : Prop := ∀ x y : Int, 0 ≤ x → 0 ≤ y → y ≤ n → (x < a ∨ (x = a ∧ y < b)) → okD k n x y
theorem okTo_0 (k n : Int) : okTo k n 0 0 := fun x y h1 h2 _ h => by omega
theorem okTo_row {k n a : Int} (h : okTo k n a (n + 1)) : okTo k n (a + 1) 0 := fun x y h1 h2 h3 h4 => h x y h1 h2 h3 (by omega)
theorem okTo_next {k n a b : Int} (h : okTo k n a b) (h' : okD k n a b) : okTo k n a (b + 1) := fun x y h1 h2 h3 h4 => by
  by_cases e : x = a ∧ y = b
  · rw [e.1, e.2]; exact h'
  · exact h x y h1 h2 h3 (by omega)
theorem divB_all {k n : Int} (hk : inB k 0 2 = true) (hn : inB n 1 6 = true) (h : okTo k n (n + 1) 0) : divB k n = true := by
  have k1 := inB_of hk
  have k2 := inB_of hn
  unfold divB
  rw [hk, hn]
  by_cases e : k = 2 ∧ 3 ≤ n
  · exact absurd (by have := h 2 1 (by omega) (by omega) (by omega) (by omega); rw [e.1] at this; exact this) (okD_not e.2)
  · simp; omega
theorem divB_not {k n a b : Int} (h : wayB k n a b = true) (hno : ¬ okD k n a b) : divB k n = false := by
  unfold divB
  by_cases e : k = 2 ∧ 3 ≤ n
  · simp; omega
  · exact absurd (okD_most h (by omega)) hno
theorem divB_out {k n : Int} (h : inB k 0 2 = false ∨ inB n 1 6 = false) : divB k n = false := by
  unfold divB
  rcases h with h | h <;> simp [h]

end Go.Proofs.Ytihhegpgadhmfaa
