/-
  Tables of three values as lists of nine numbers: regular ones, tables put into tables, the strong table. No program is named.
-/
import Derived.Test.YtbhfbpmfbknalaaBase
namespace Go.Proofs.Ytbhfbpmfbknalaa

def triB (l : List Int) : Bool := l.length == 9 && l.all fun x => inB x 0 2
theorem triB_of {l : List Int} (h : triB l = true) : l.length = 9 ∧ ∀ k, k < 9 → 0 ≤ l.getD k 0 ∧ l.getD k 0 ≤ 2 := by
  unfold triB at h
  rw [Bool.and_eq_true, beq_iff_eq, List.all_eq_true] at h
  refine ⟨h.1, fun k hk => ?_⟩
  have := inB_of (h.2 (l[k]'(by omega)) (List.getElem_mem _))
  rw [List.getD_eq_getElem?_getD, List.getElem?_eq_getElem (by omega)]
  exact this
theorem triB_mk {l : List Int} (hl : l.length = 9) (h : ∀ k, k < 9 → 0 ≤ l.getD k 0 ∧ l.getD k 0 ≤ 2) : triB l = true := by
  unfold triB
  rw [Bool.and_eq_true, beq_iff_eq, List.all_eq_true]
  refine ⟨hl, fun x hx => ?_⟩
  obtain ⟨k, hk, rfl⟩ := List.mem_iff_getElem.1 hx
  have := h k (by omega)
  rw [List.getD_eq_getElem?_getD, List.getElem?_eq_getElem hk] at this
  exact inB_t this
/-- One value is another one, or unknown. -/
def lsN (a b : Nat) : Bool := a == b || a == 1
def lsZ (a b : Int) : Bool := a == b || a == 1
def pairB (a b : Nat) : Bool := lsN (a / 3) (b / 3) && lsN (a % 3) (b % 3)
/-- What a place of the 81 pairs asks. -/
def regK (l : List Int) (k : Nat) : Bool := !pairB (k / 9) (k % 9) || lsZ (l.getD (k / 9) 0) (l.getD (k % 9) 0)
def regB (l : List Int) : Bool := triB l && (List.range 81).all (regK l)
theorem regB_of {l : List Int} (h : regB l = true) : triB l = true ∧ ∀ a b, a < 9 → b < 9 → pairB a b = true → lsZ (l.getD a 0) (l.getD b 0) = true := by
  unfold regB at h
  rw [Bool.and_eq_true, List.all_eq_true] at h
  refine ⟨h.1, fun a b ha hb hp => ?_⟩
  have := h.2 (9 * a + b) (List.mem_range.2 (by omega))
  unfold regK at this
  rw [show (9 * a + b) / 9 = a by omega, show (9 * a + b) % 9 = b by omega, hp] at this
  simpa using this
theorem regB_mk {l : List Int} (ht : triB l = true) (h : ∀ a b, a < 9 → b < 9 → pairB a b = true → lsZ (l.getD a 0) (l.getD b 0) = true) : regB l = true := by
  unfold regB
  rw [ht, Bool.true_and, List.all_eq_true]
  intro k hk
  have hk := List.mem_range.1 hk
  unfold regK
  cases hp : pairB (k / 9) (k % 9)
  · rfl
  · rw [h (k / 9) (k % 9) (by omega) (by omega) hp]; rfl
theorem lsZ_of {a b : Int} (h : lsZ a b = true) : a = b ∨ a = 1 := by unfold lsZ at h; simpa using h
/-- What a regular table tells for 1 and 1, if it isn't 1, is the same for all. -/
theorem reg_mid {l : List Int} (h : regB l = true) (hm : l.getD 4 0 ≠ 1) {k : Nat} (hk : k < 9) : l.getD k 0 = l.getD 4 0 := by
  have hp : pairB 4 k = true := by unfold pairB lsN; simp
  rcases lsZ_of ((regB_of h).2 4 k (by omega) hk hp) with e | e
  · exact e.symm
  · exact absurd e hm

/-- A table that tells what one tells for what both others tell. -/
def putK (t u v : List Int) (k : Nat) : Int := t.getD (3 * u.getD k 0 + v.getD k 0).toNat 0
def putL (t u v : List Int) : List Int := (List.range 9).map (putK t u v)
theorem putL_at (t u v : List Int) {k : Nat} (hk : k < 9) : (putL t u v).getD k 0 = putK t u v k := by
  unfold putL
  rw [List.getD_eq_getElem?_getD, List.getElem?_map, List.getElem?_range hk]
  rfl
theorem putL_tri {t u v : List Int} (ht : triB t = true) (hu : triB u = true) (hv : triB v = true) : triB (putL t u v) = true := by
  obtain ⟨_, a⟩ := triB_of ht
  obtain ⟨_, b⟩ := triB_of hu
  obtain ⟨_, c⟩ := triB_of hv
  refine triB_mk (by simp [putL]) fun k hk => ?_
  rw [putL_at t u v hk]
  have h1 := b k hk
  have h2 := c k hk
  exact a _ (by omega)
/-- Regular tables put into regular tables are regular. -/
theorem put_reg {t u v : List Int} (ht : regB t = true) (hu : regB u = true) (hv : regB v = true) : regB (putL t u v) = true := by
  obtain ⟨t1, t2⟩ := regB_of ht
  obtain ⟨u1, u2⟩ := regB_of hu
  obtain ⟨v1, v2⟩ := regB_of hv
  refine regB_mk (putL_tri t1 u1 v1) fun a b ha hb hp => ?_
  rw [putL_at t u v ha, putL_at t u v hb]
  unfold putK
  have ua := (triB_of u1).2 a ha
  have ub := (triB_of u1).2 b hb
  have va := (triB_of v1).2 a ha
  have vb := (triB_of v1).2 b hb
  have hu := lsZ_of (u2 a b ha hb hp)
  have hv := lsZ_of (v2 a b ha hb hp)
  refine t2 _ _ (by omega) (by omega) ?_
  unfold pairB lsN
  simp only [Bool.and_eq_true, Bool.or_eq_true, beq_iff_eq]
  omega

/-! The strong table. -/

/-- The value of two truths, by the number's digits. -/
def corB (m w : Nat) : Bool := m / 2 ^ w % 2 == 1
def aboB (k w : Nat) : Bool := lsN (k / 3) (w / 2 * 2) && lsN (k % 3) (w % 2 * 2)
def strK (m k : Nat) : Int :=
  if !(List.range 4).any fun w => aboB k w && corB m w then 0
  else if !(List.range 4).any fun w => aboB k w && !corB m w then 2 else 1
def strL (m : Nat) : List Int := (List.range 9).map (strK m)
theorem strL_at (m : Nat) {k : Nat} (hk : k < 9) : (strL m).getD k 0 = strK m k := by
  unfold strL
  rw [List.getD_eq_getElem?_getD, List.getElem?_map, List.getElem?_range hk]
  rfl
theorem str_reg : ((List.range 16).all fun m => regB (strL m)) = true := by decide +kernel
/-- For false and true alone it tells what the table does. -/
theorem str_cor : ((List.range 16).all fun m => (List.range 4).all fun w => (strL m).getD (3 * (w / 2 * 2) + w % 2 * 2) 0 == if corB m w then 2 else 0) = true := by decide +kernel
theorem abo_tab : ((List.range 9).all fun k => (List.range 4).any fun w => aboB k w) = true := by decide +kernel
theorem abo_pair : ((List.range 9).all fun k => (List.range 4).all fun w => !aboB k w || pairB k (3 * (w / 2 * 2) + w % 2 * 2)) = true := by decide +kernel
/-- Each regular table that tells the same for false and true tells, wherever it does not tell 1, what the strong one tells. -/
theorem str_most {m : Nat} {l : List Int} (h : regB l = true) (hc : ∀ w, w < 4 → l.getD (3 * (w / 2 * 2) + w % 2 * 2) 0 = if corB m w then 2 else 0) {k : Nat} (hk : k < 9) (h1 : l.getD k 0 ≠ 1) : l.getD k 0 = strK m k := by
  have hall : ∀ w, w < 4 → aboB k w = true → l.getD k 0 = if corB m w then 2 else 0 := fun w hw ha => by
    have hp := abo_pair
    rw [List.all_eq_true] at hp
    have hp := hp k (List.mem_range.2 hk)
    rw [List.all_eq_true] at hp
    have hp := hp w (List.mem_range.2 hw)
    rw [ha] at hp
    rcases lsZ_of ((regB_of h).2 k (3 * (w / 2 * 2) + w % 2 * 2) hk (by omega) (by simpa using hp)) with e | e
    · rw [e]; exact hc w hw
    · exact absurd e h1
  have hex := abo_tab
  rw [List.all_eq_true] at hex
  have hex := hex k (List.mem_range.2 hk)
  rw [List.any_eq_true] at hex
  obtain ⟨w0, hw0, ha0⟩ := hex
  have hw0 := List.mem_range.1 hw0
  have e0 := hall w0 hw0 ha0
  unfold strK
  cases hb : corB m w0
  · rw [hb] at e0
    have hno : ((List.range 4).any fun w => aboB k w && corB m w) = false := by
      rw [List.any_eq_false]
      intro w hw hh
      rw [Bool.and_eq_true] at hh
      have := hall w (List.mem_range.1 hw) hh.1
      rw [hh.2] at this
      rw [e0] at this
      revert this
      decide
    rw [hno]
    exact e0
  · rw [hb] at e0
    have hyes : ((List.range 4).any fun w => aboB k w && corB m w) = true := by
      rw [List.any_eq_true]
      exact ⟨w0, List.mem_range.2 hw0, by rw [ha0, hb]; rfl⟩
    have hno : ((List.range 4).any fun w => aboB k w && !corB m w) = false := by
      rw [List.any_eq_false]
      intro w hw hh
      rw [Bool.and_eq_true, Bool.not_eq_true'] at hh
      have := hall w (List.mem_range.1 hw) hh.1
      rw [hh.2] at this
      rw [e0] at this
      revert this
      decide
    rw [hyes, hno]
    exact e0
/-- Those of 8 and of 14 are the lesser and the greater one. -/
theorem str_named : strL 8 = (List.range 9).map (fun k => ((min (k / 3) (k % 3) : Nat) : Int)) ∧ strL 14 = (List.range 9).map (fun k => ((max (k / 3) (k % 3) : Nat) : Int)) := by decide +kernel

/-! Named tables. -/

def namK (m k : Nat) : Int :=
  let a := k / 3
  let b := k % 3
  match m with
  | 0 => min a b
  | 1 => max a b
  | 2 => max (2 - a) b
  | 3 => if 2 - a + b ≤ 2 then (2 - a + b : Nat) else 2
  | 4 => if a ≤ b then 2 else b
  | _ => if a = 1 ∨ b = 1 then 1 else min a b
def namL (m : Nat) : List Int := (List.range 9).map (namK m)
theorem nam_reg : ((List.range 6).all fun m => triB (namL m) && (regB (namL m) == (m != 3 && m != 4))) = true := by decide +kernel

end Go.Proofs.Ytbhfbpmfbknalaa
