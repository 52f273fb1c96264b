/-
  The values of formulas as plain numbers, and what the promises of chapter 4 say of them. No program is walked here.
-/
import Derived.Test.YtlnffpofbfigaaaGreatDoorSign
import Derived.Test.YtlnffpofbfigaaaGreatDoorForm
namespace Go.Proofs.YtlnffpofbfigaaaGreatDoor

def Sg.app : Sg → Int → Int → Int → Int
  | .fol => folW
  | .plus => plusW
  | .times => timesW
  | .less => lessW
  | .great => greatW

def Lr.pick (a b c : Int) : Lr → Int
  | .la => a
  | .lb => b
  | .lc => c

def Tr.val (n a b c : Int) : Tr → Int
  | .lt k => k.pick a b c
  | .tru b' => if b' then n else 0
  | .neg x => notW n (x.val n a b c)
  | .bin g x y => g.app n (x.val n a b c) (y.val n a b c)

def thrB (n a b c : Int) : Bool := vokB n a && (vokB n b && vokB n c)
theorem thrB_of {n a b c : Int} (h : thrB n a b c = true) : vokB n a = true ∧ vokB n b = true ∧ vokB n c = true := by
  unfold thrB at h
  rw [Bool.and_eq_true, Bool.and_eq_true] at h
  exact h
theorem thrB_mk {n a b c : Int} (h1 : vokB n a = true) (h2 : vokB n b = true) (h3 : vokB n c = true) : thrB n a b c = true := by unfold thrB; rw [h1, h2, h3]; rfl
theorem thrB_no {n a b c : Int} (h : thrB n a b c = false) : vokB n a = false ∨ (vokB n a = true ∧ vokB n b = false) ∨ (vokB n a = true ∧ vokB n b = true ∧ vokB n c = false) := by
  cases h1 : vokB n a
  · exact .inl rfl
  · cases h2 : vokB n b
    · exact .inr (.inl ⟨rfl, rfl⟩)
    · cases h3 : vokB n c
      · exact .inr (.inr ⟨rfl, rfl, rfl⟩)
      · rw [thrB_mk h1 h2 h3] at h; cases h

theorem app_ok (g : Sg) {n x y : Int} (hx : vokB n x = true) (hy : vokB n y = true) : vokB n (g.app n x y) = true := by
  have h := twoB_mk hx hy
  have k := vokB_of hx
  cases g
  · have := folW_ok h; exact vokB_t (by show _ ∧ _ ∧ 0 ≤ folW n x y ∧ folW n x y ≤ n; omega)
  · have := plusW_ok h; exact vokB_t (by show _ ∧ _ ∧ 0 ≤ plusW n x y ∧ plusW n x y ≤ n; omega)
  · have := timesW_ok h; exact vokB_t (by show _ ∧ _ ∧ 0 ≤ timesW n x y ∧ timesW n x y ≤ n; omega)
  · have := lessW_ok h; exact vokB_t (by show _ ∧ _ ∧ 0 ≤ lessW n x y ∧ lessW n x y ≤ n; omega)
  · have := greatW_ok h; exact vokB_t (by show _ ∧ _ ∧ 0 ≤ greatW n x y ∧ greatW n x y ≤ n; omega)

theorem val_ok {n a b c : Int} (h : thrB n a b c = true) : ∀ t : Tr, vokB n (t.val n a b c) = true := by
  obtain ⟨ha, hb, hc⟩ := thrB_of h
  have k := vokB_of ha
  intro t
  induction t with
  | lt x => cases x <;> assumption
  | tru x =>
    cases x
    · exact vokB_t (by show _ ∧ _ ∧ 0 ≤ (0 : Int) ∧ (0 : Int) ≤ n; omega)
    · exact vokB_t (by show _ ∧ _ ∧ 0 ≤ n ∧ n ≤ n; omega)
  | neg x ih =>
    have kk := vokB_of ih
    show vokB n (notW n (x.val n a b c)) = true
    rw [notW_t ih]
    exact vokB_t (by omega)
  | bin g x y ihx ihy => exact app_ok g ihx ihy

theorem zero_ok {n x : Int} (h : vokB n x = true) : vokB n 0 = true := by have := vokB_of h; exact vokB_t (by omega)
theorem fol_raw {n x y : Int} (hx : vokB n x = true) (hy : vokB n y = true) : folW n x y = if n - x + y ≤ n then n - x + y else n := by unfold folW; rw [if_pos (twoB_mk hx hy)]
theorem plus_raw {n x y : Int} (hx : vokB n x = true) (hy : vokB n y = true) : plusW n x y = if x + y ≤ n then x + y else n := by unfold plusW; rw [if_pos (twoB_mk hx hy)]
theorem times_raw {n x y : Int} (hx : vokB n x = true) (hy : vokB n y = true) : timesW n x y = if 0 ≤ x + y - n then x + y - n else 0 := by unfold timesW; rw [if_pos (twoB_mk hx hy)]
theorem less_raw {n x y : Int} (hx : vokB n x = true) (hy : vokB n y = true) : lessW n x y = if x ≤ y then x else y := by unfold lessW; rw [if_pos (twoB_mk hx hy)]
theorem great_raw {n x y : Int} (hx : vokB n x = true) (hy : vokB n y = true) : greatW n x y = if x ≤ y then y else x := by unfold greatW; rw [if_pos (twoB_mk hx hy)]
theorem fol_zero {n x : Int} (hx : vokB n x = true) : folW n x 0 = n - x := by
  have k := vokB_of hx
  rw [fol_raw hx (zero_ok hx)]
  split <;> omega
theorem sub_ok {n x : Int} (hx : vokB n x = true) : vokB n (n - x) = true := by have k := vokB_of hx; exact vokB_t (by omega)
theorem fol_ok' {n x y : Int} (hx : vokB n x = true) (hy : vokB n y = true) : vokB n (folW n x y) = true := app_ok .fol hx hy

theorem val_no (n a b c : Int) (x : Tr) : (Tr.no x).val n a b c = folW n (x.val n a b c) 0 := rfl
theorem val_fol (n a b c : Int) (x y : Tr) : (Tr.bin .fol x y).val n a b c = folW n (x.val n a b c) (y.val n a b c) := rfl

theorem val_bas {n a b c : Int} (h : thrB n a b c = true) : ∀ t : Tr, t.bas.val n a b c = t.val n a b c := by
  have k := vokB_of (thrB_of h).1
  intro t
  induction t with
  | lt x => rfl
  | tru x =>
    cases x
    · rfl
    · show folW n 0 0 = n
      have := fol_zero (zero_ok (thrB_of h).1)
      rw [this]; omega
  | neg x ih =>
    have o := val_ok h x
    show (Tr.no x.bas).val n a b c = notW n (x.val n a b c)
    rw [val_no, ih, fol_zero o, notW_t o]
  | bin g x y ihx ihy =>
    have ox := val_ok h x
    have oy := val_ok h y
    have kx := vokB_of ox
    have ky := vokB_of oy
    cases g
    · show (Tr.bin .fol x.bas y.bas).val n a b c = folW n (x.val n a b c) (y.val n a b c)
      rw [val_fol, ihx, ihy]
    · show (Tr.bin .fol (.no x.bas) y.bas).val n a b c = plusW n (x.val n a b c) (y.val n a b c)
      rw [val_fol, val_no, ihx, ihy, fol_zero ox, fol_raw (sub_ok ox) oy, plus_raw ox oy]
      split <;> split <;> omega
    · show (Tr.no (.bin .fol x.bas (.no y.bas))).val n a b c = timesW n (x.val n a b c) (y.val n a b c)
      rw [val_no, val_fol, val_no, ihx, ihy, fol_zero oy, fol_zero (fol_ok' ox (sub_ok oy)), fol_raw ox (sub_ok oy), times_raw ox oy]
      split <;> split <;> omega
    · show (Tr.no (.bin .fol x.bas (.no (.bin .fol x.bas y.bas)))).val n a b c = lessW n (x.val n a b c) (y.val n a b c)
      have o1 := fol_ok' ox oy
      have o2 := sub_ok o1
      have o3 := fol_ok' ox o2
      rw [val_no, val_fol, val_no, val_fol, ihx, ihy, fol_zero o1, fol_zero o3, fol_raw ox o2, fol_raw ox oy, less_raw ox oy]
      split <;> split <;> split <;> omega
    · show (Tr.bin .fol (.bin .fol x.bas y.bas) y.bas).val n a b c = greatW n (x.val n a b c) (y.val n a b c)
      have o1 := fol_ok' ox oy
      rw [val_fol, val_fol, ihx, ihy, fol_raw o1 oy, fol_raw ox oy, great_raw ox oy]
      split <;> split <;> split <;> omega

/-- In a chain of k times as many steps, of k times the values, it is k times the value. -/
theorem val_mul {n a b c k : Int} (hk : 1 ≤ k ∧ k ≤ 6) (h : thrB n a b c = true) (hs : thrB (k * n) (k * a) (k * b) (k * c) = true) : ∀ t : Tr, t.val (k * n) (k * a) (k * b) (k * c) = k * t.val n a b c := by
  intro t
  induction t with
  | lt x => cases x <;> rfl
  | tru x =>
    cases x
    · show (0 : Int) = k * 0; omega
    · rfl
  | neg x ih =>
    have o := val_ok h x
    have o' := val_ok hs x
    show notW (k * n) (x.val (k * n) (k * a) (k * b) (k * c)) = k * notW n (x.val n a b c)
    rw [notW_t o', notW_t o, ih, Int.mul_sub]
  | bin g x y ihx ihy =>
    have ox := val_ok h x
    have oy := val_ok h y
    have px := val_ok hs x
    have py := val_ok hs y
    rw [ihx] at px
    rw [ihy] at py
    show g.app (k * n) (x.val (k * n) (k * a) (k * b) (k * c)) (y.val (k * n) (k * a) (k * b) (k * c)) = k * g.app n (x.val n a b c) (y.val n a b c)
    rw [ihx, ihy]
    generalize x.val n a b c = u at *
    generalize y.val n a b c = v at *
    obtain rfl | rfl | rfl | rfl | rfl | rfl : k = 1 ∨ k = 2 ∨ k = 3 ∨ k = 4 ∨ k = 5 ∨ k = 6 := by omega
    all_goals
      cases g
      · show folW _ _ _ = _ * folW _ _ _
        rw [fol_raw px py, fol_raw ox oy]; split <;> split <;> omega
      · show plusW _ _ _ = _ * plusW _ _ _
        rw [plus_raw px py, plus_raw ox oy]; split <;> split <;> omega
      · show timesW _ _ _ = _ * timesW _ _ _
        rw [times_raw px py, times_raw ox oy]; split <;> split <;> omega
      · show lessW _ _ _ = _ * lessW _ _ _
        rw [less_raw px py, less_raw ox oy]; split <;> split <;> omega
      · show greatW _ _ _ = _ * greatW _ _ _
        rw [great_raw px py, great_raw ox oy]; split <;> split <;> omega

theorem val_none (n a b c a' b' c' : Int) : ∀ t : Tr, t.ls = 0 → t.val n a b c = t.val n a' b' c' := by
  intro t
  induction t with
  | lt x => intro h; cases h
  | tru x => intro _; rfl
  | neg x ih => intro h; show notW n _ = notW n _; rw [ih h]
  | bin g x y ihx ihy =>
    intro h
    have h' : x.ls + y.ls = 0 := h
    show g.app n _ _ = g.app n _ _
    rw [ihx (by omega), ihy (by omega)]

/-- ValueAt, as a plain number. -/
def valI (n : Int) (l : List UInt8) (a b c : Int) : Int :=
  match fOf l with
  | none => -1
  | some t => if thrB n a b c = true then t.val n a b c else -1
theorem valI_t {n a b c : Int} {l : List UInt8} {t : Tr} (h : fOf l = some t) (k : thrB n a b c = true) : valI n l a b c = t.val n a b c := by unfold valI; rw [h]; exact if_pos k
theorem valI_n {n a b c : Int} {l : List UInt8} (h : fOf l = none) : valI n l a b c = -1 := by unfold valI; rw [h]
theorem valI_f {n a b c : Int} {l : List UInt8} (k : thrB n a b c = false) : valI n l a b c = -1 := by
  unfold valI
  split
  · rfl
  · rw [k]; rfl

end Go.Proofs.YtlnffpofbfigaaaGreatDoor
