/-
  How far values, rows and formulas are apart, as plain numbers. No program is named.
-/
import Derived.Test.YtakjlfcgciglgaaDoorFVal
import Derived.Test.YtakjlfcgciglgaaDoorAlw
namespace Go.Proofs.YtakjlfcgciglgaaDoor

def gap (a b : Int) : Int := if a ≤ b then b - a else a - b
theorem gap_sym (a b : Int) : gap a b = gap b a := by unfold gap; split <;> split <;> omega
theorem gap_pos (a b : Int) : 0 ≤ gap a b := by unfold gap; split <;> omega
theorem gap_zero {a b : Int} : gap a b = 0 ↔ a = b := by unfold gap; split <;> omega
theorem gap_over (a b c : Int) : gap a b ≤ gap a c + gap c b := by unfold gap; repeat' split <;> omega
theorem gap_self (a : Int) : gap a a = 0 := gap_zero.2 rfl
theorem gap_low (a b : Int) : gap a (if a ≤ b then a else b) + gap (if a ≤ b then a else b) b = gap a b := by
  by_cases h : a ≤ b
  · rw [if_pos h, gap_self]; omega
  · rw [if_neg h, gap_self]; omega
def farW (n a b : Int) : Int := if twoB n a b = true then gap a b else -1
theorem farW_t {n a b : Int} (h : twoB n a b = true) : farW n a b = gap a b := if_pos h
theorem farW_f {n a b : Int} (h : twoB n a b = false) : farW n a b = -1 := by unfold farW; rw [h]; rfl
def alkW (n a b : Int) : Int := if twoB n a b = true then n - gap a b else -1
theorem alkW_t {n a b : Int} (h : twoB n a b = true) : alkW n a b = n - gap a b := if_pos h
theorem alkW_f {n a b : Int} (h : twoB n a b = false) : alkW n a b = -1 := by unfold alkW; rw [h]; rfl
theorem gap_le {n a b : Int} (h : twoB n a b = true) : gap a b ≤ n := by
  obtain ⟨_, _, k⟩ := twoB_of h
  unfold gap
  split <;> omega

/-- Signs bring values no farther apart. -/
theorem app_gap (g : Sg) {n x y x' y' : Int} (hx : vokB n x = true) (hy : vokB n y = true) (hx' : vokB n x' = true) (hy' : vokB n y' = true) : gap (g.app n x y) (g.app n x' y') ≤ gap x x' + gap y y' := by
  have k1 := vokB_of hx
  have k2 := vokB_of hy
  have k3 := vokB_of hx'
  have k4 := vokB_of hy'
  cases g
  · show gap (folW n x y) (folW n x' y') ≤ _
    rw [fol_raw hx hy, fol_raw hx' hy']
    unfold gap
    repeat' split <;> omega
  · show gap (plusW n x y) (plusW n x' y') ≤ _
    rw [plus_raw hx hy, plus_raw hx' hy']
    unfold gap
    repeat' split <;> omega
  · show gap (timesW n x y) (timesW n x' y') ≤ _
    rw [times_raw hx hy, times_raw hx' hy']
    unfold gap
    repeat' split <;> omega
  · show gap (lessW n x y) (lessW n x' y') ≤ _
    rw [less_raw hx hy, less_raw hx' hy']
    unfold gap
    repeat' split <;> omega
  · show gap (greatW n x y) (greatW n x' y') ≤ _
    rw [great_raw hx hy, great_raw hx' hy']
    unfold gap
    repeat' split <;> omega
theorem not_gap {n x x' : Int} (hx : vokB n x = true) (hx' : vokB n x' = true) : gap (notW n x) (notW n x') = gap x x' := by
  rw [notW_t hx, notW_t hx']
  unfold gap
  split <;> split <;> omega
/-- Formulas move at most as often as letters stand in them. -/
theorem val_gap {n a a' b c : Int} (h : thrB n a b c = true) (h' : thrB n a' b c = true) (hd : gap a a' ≤ 1) : ∀ t : Tr, gap (t.val n a b c) (t.val n a' b c) ≤ (t.ls : Int) := by
  intro t
  induction t with
  | lt x =>
    cases x
    · exact hd
    · show gap b b ≤ _; rw [gap_self]; exact Int.natCast_nonneg _
    · show gap c c ≤ _; rw [gap_self]; exact Int.natCast_nonneg _
  | tru x => show gap _ _ ≤ _; exact Int.le_of_eq (gap_self _)
  | neg x ih =>
    show gap (notW n _) (notW n _) ≤ ((x.ls : Nat) : Int)
    rw [not_gap (val_ok h x) (val_ok h' x)]
    exact ih
  | bin g x y ihx ihy =>
    have := app_gap g (val_ok h x) (val_ok h y) (val_ok h' x) (val_ok h' y)
    show gap (g.app n _ _) (g.app n _ _) ≤ (((x.ls + y.ls : Nat)) : Int)
    omega
/-- Without the letter a nothing moves with it. -/
theorem val_noA (n a a' b c : Int) : ∀ t : Tr, (97 : UInt8) ∉ t.txt → t.val n a b c = t.val n a' b c := by
  intro t
  induction t with
  | lt x =>
    intro h
    cases x
    · exact absurd (List.mem_singleton.2 rfl) h
    · rfl
    · rfl
  | tru x => intro _; rfl
  | neg x ih =>
    intro h
    show notW n _ = notW n _
    rw [ih fun hm => h (List.mem_cons_of_mem _ hm)]
  | bin g x y ihx ihy =>
    intro h
    show g.app n _ _ = g.app n _ _
    rw [ihx fun hm => h (by simp [Tr.txt, hm]), ihy fun hm => h (by simp [Tr.txt, hm])]

/-! Rows. -/

def rowB (n : Int) (l : List Int) : Bool := inB n 1 6 && inB l.length 1 7 && l.all (vokB n)
def gapS (x y : List Int) : Nat → Int
  | 0 => 0
  | k + 1 => gapS x y k + gap (x.getD k 0) (y.getD k 0)
def alkM (n : Int) (x y : List Int) : Nat → Int
  | 0 => n
  | k + 1 => if alkM n x y k ≤ n - gap (x.getD k 0) (y.getD k 0) then alkM n x y k else n - gap (x.getD k 0) (y.getD k 0)
theorem gapS_pos (x y : List Int) : ∀ k, 0 ≤ gapS x y k := by
  intro k
  induction k with
  | zero => exact Int.le_refl _
  | succ k ih => have := gap_pos (x.getD k 0) (y.getD k 0); unfold gapS; omega
theorem gapS_sym (x y : List Int) : ∀ k, gapS x y k = gapS y x k := by
  intro k
  induction k with
  | zero => rfl
  | succ k ih => unfold gapS; rw [ih, gap_sym]
theorem gapS_zero (x y : List Int) : ∀ k, gapS x y k = 0 ↔ ∀ j, j < k → x.getD j 0 = y.getD j 0 := by
  intro k
  induction k with
  | zero => exact ⟨fun _ j hj => absurd hj (by omega), fun _ => rfl⟩
  | succ k ih =>
    have h1 := gapS_pos x y k
    have h2 := gap_pos (x.getD k 0) (y.getD k 0)
    unfold gapS
    refine ⟨fun h j hj => ?_, fun h => ?_⟩
    · by_cases e : j < k
      · exact ih.1 (by omega) j e
      · obtain rfl : j = k := by omega
        exact gap_zero.1 (by omega)
    · rw [ih.2 fun j hj => h j (by omega), gap_zero.2 (h k (by omega))]
      rfl
theorem getD_ext {x y : List Int} (hl : x.length = y.length) (h : ∀ j, j < x.length → x.getD j 0 = y.getD j 0) : x = y := by
  apply List.ext_getElem hl
  intro i h1 h2
  have := h i h1
  rw [List.getD_eq_getElem?_getD, List.getElem?_eq_getElem h1, List.getD_eq_getElem?_getD, List.getElem?_eq_getElem h2] at this
  exact this
theorem gapS_eq {x y : List Int} (hl : x.length = y.length) : (gapS x y x.length == 0) = (x == y) := by
  cases h : x == y
  · rw [beq_eq_false_iff_ne] at h ⊢
    exact fun e => h (getD_ext hl ((gapS_zero x y _).1 e))
  · rw [beq_iff_eq] at h ⊢
    subst h
    exact (gapS_zero x x _).2 fun _ _ => rfl
theorem gapS_low (x y l : List Int) : ∀ k, (∀ j, j < k → l.getD j 0 = if x.getD j 0 ≤ y.getD j 0 then x.getD j 0 else y.getD j 0) → gapS x l k + gapS l y k = gapS x y k := by
  intro k
  induction k with
  | zero => intro _; rfl
  | succ k ih =>
    intro h
    have := gap_low (x.getD k 0) (y.getD k 0)
    rw [← h k (by omega)] at this
    have := ih fun j hj => h j (by omega)
    unfold gapS
    omega
theorem alkM_le (n : Int) (x y : List Int) : ∀ k, alkM n x y k ≤ n := by
  intro k
  induction k with
  | zero => exact Int.le_refl _
  | succ k ih => unfold alkM; split <;> omega
theorem alkM_at (n : Int) (x y : List Int) : ∀ k j, j < k → alkM n x y k ≤ n - gap (x.getD j 0) (y.getD j 0) := by
  intro k
  induction k with
  | zero => intro j hj; omega
  | succ k ih =>
    intro j hj
    by_cases e : j < k
    · have := ih j e
      unfold alkM
      split <;> omega
    · obtain rfl : j = k := by omega
      unfold alkM
      split <;> omega
theorem alkM_far (n : Int) (x y : List Int) : ∀ k, n - alkM n x y k ≤ gapS x y k := by
  intro k
  induction k with
  | zero => show n - n ≤ 0; omega
  | succ k ih =>
    have h1 := gapS_pos x y k
    have h2 := gap_pos (x.getD k 0) (y.getD k 0)
    unfold alkM gapS
    split <;> omega
theorem alkM_all (n : Int) (x y : List Int) : ∀ k, alkM n x y k = n ↔ ∀ j, j < k → x.getD j 0 = y.getD j 0 := by
  intro k
  refine ⟨fun h j hj => ?_, fun h => ?_⟩
  · have h1 := alkM_at n x y k j hj
    have h2 := gap_pos (x.getD j 0) (y.getD j 0)
    exact gap_zero.1 (by omega)
  · have h1 := alkM_far n x y k
    rw [(gapS_zero x y k).2 h] at h1
    have := alkM_le n x y k
    omega
theorem alkM_eq {n : Int} {x y : List Int} (hl : x.length = y.length) : (alkM n x y x.length == n) = (x == y) := by
  cases h : x == y
  · rw [beq_eq_false_iff_ne] at h ⊢
    exact fun e => h (getD_ext hl ((alkM_all n x y _).1 e))
  · rw [beq_iff_eq] at h ⊢
    subst h
    exact (alkM_all n x x _).2 fun _ _ => rfl

/-! How far a formula moves. -/

/-- The greatest way so far, over the places ahead of k. -/
def movU (n : Nat) (t : Tr) : Nat → Int
  | 0 => 0
  | k + 1 => if k / (n + 1) / (n + 1) = 0 then movU n t k else if gap (t.val n (tA n k) (tB n k) (tC n k)) (t.val n ((tA n k : Int) - 1) (tB n k) (tC n k)) ≤ movU n t k then movU n t k else gap (t.val n (tA n k) (tB n k) (tC n k)) (t.val n ((tA n k : Int) - 1) (tB n k) (tC n k))
theorem movU_pos (n : Nat) (t : Tr) : ∀ k, 0 ≤ movU n t k := by
  intro k
  induction k with
  | zero => exact Int.le_refl _
  | succ k ih => unfold movU; repeat' split <;> omega
theorem movU_le {n : Nat} (hn : 1 ≤ n ∧ n ≤ 6) (t : Tr) : ∀ k, k ≤ cub n → movU n t k ≤ (t.ls : Int) := by
  intro k
  induction k with
  | zero => intro _; exact Int.natCast_nonneg _
  | succ k ih =>
    intro hk
    have h1 := ih (by omega)
    unfold movU
    split
    · exact h1
    · rename_i hz
      split
      · exact h1
      · have hA : tA n k = k / (n + 1) / (n + 1) := tA_eq (by omega)
        have ht := tri_ok hn k
        obtain ⟨q1, q2, q3⟩ := thrB_of ht
        have k1 := vokB_of q1
        have ht' : thrB n ((tA n k : Int) - 1) (tB n k) (tC n k) = true := thrB_mk (vokB_t (by omega)) q2 q3
        exact val_gap ht ht' (by unfold gap; split <;> omega) t
theorem movU_noA (n : Nat) (t : Tr) (h : (97 : UInt8) ∉ t.txt) : ∀ k, movU n t k = 0 := by
  intro k
  induction k with
  | zero => rfl
  | succ k ih =>
    unfold movU
    rw [val_noA n _ ((tA n k : Int) - 1) _ _ t h, gap_self, ih]
    repeat' split <;> omega

end Go.Proofs.YtakjlfcgciglgaaDoor
