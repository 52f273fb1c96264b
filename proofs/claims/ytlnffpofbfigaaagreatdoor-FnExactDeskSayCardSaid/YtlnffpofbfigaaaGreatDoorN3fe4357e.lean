/-
  Formulas as plain trees: their texts, a plain parser of byte lists, and what they are when written with following and false alone. No program is imported.
-/
namespace Go.Proofs.YtlnffpofbfigaaaGreatDoor

inductive Sg where
  | fol
  | plus
  | times
  | less
  | great

inductive Lr where
  | la
  | lb
  | lc

inductive Tr where
  | lt (k : Lr)
  | tru (b : Bool)
  | neg (x : Tr)
  | bin (g : Sg) (x y : Tr)

def Sg.byte : Sg → UInt8
  | .fol => 62
  | .plus => 43
  | .times => 42
  | .less => 38
  | .great => 124

def Lr.byte : Lr → UInt8
  | .la => 97
  | .lb => 98
  | .lc => 99

def Lr.num : Lr → Nat
  | .la => 0
  | .lb => 1
  | .lc => 2

def Tr.txt : Tr → List UInt8
  | .lt k => [k.byte]
  | .tru b => [if b then 49 else 48]
  | .neg x => 33 :: x.txt
  | .bin g x y => 40 :: (x.txt ++ g.byte :: (y.txt ++ [41]))

theorem txt_pos : ∀ t : Tr, 1 ≤ t.txt.length
  | .lt _ => by simp [Tr.txt]
  | .tru _ => by simp [Tr.txt]
  | .neg _ => by simp [Tr.txt]
  | .bin _ _ _ => by simp [Tr.txt]

def sgOf (c : UInt8) : Option Sg :=
  if c = 62 then some .fol else if c = 43 then some .plus else if c = 42 then some .times else if c = 38 then some .less else if c = 124 then some .great else none

theorem sgOf_byte (g : Sg) : sgOf g.byte = some g := by cases g <;> rfl
theorem sgOf_some {c : UInt8} {g : Sg} (h : sgOf c = some g) : c = g.byte := by
  unfold sgOf at h
  split at h
  · cases h; assumption
  · split at h
    · cases h; assumption
    · split at h
      · cases h; assumption
      · split at h
        · cases h; assumption
        · split at h
          · cases h; assumption
          · cases h

/-- What stands behind an opening bracket: two formulas with a sign between them, and the closing bracket. -/
def prp (f : List UInt8 → Option (Tr × List UInt8)) (l : List UInt8) : Option (Tr × List UInt8) :=
  match f l with
  | none => none
  | some (_, []) => none
  | some (x, d :: r) =>
    match sgOf d with
    | none => none
    | some g =>
      match f r with
      | none => none
      | some (_, []) => none
      | some (y, e :: q) => if e = 41 then some (.bin g x y, q) else none

def prs : Nat → List UInt8 → Option (Tr × List UInt8)
  | 0, _ => none
  | _ + 1, [] => none
  | k + 1, c :: l =>
    if c = 97 then some (.lt .la, l) else if c = 98 then some (.lt .lb, l) else if c = 99 then some (.lt .lc, l)
    else if c = 48 then some (.tru false, l) else if c = 49 then some (.tru true, l)
    else if c = 33 then (match prs k l with | none => none | some (x, r) => some (.neg x, r))
    else if c = 40 then prp (prs k) l
    else none

def PrsOther (c : UInt8) : Prop := c ≠ 97 ∧ c ≠ 98 ∧ c ≠ 99 ∧ c ≠ 48 ∧ c ≠ 49 ∧ c ≠ 33 ∧ c ≠ 40

theorem prs_nil (k : Nat) : prs k [] = none := by cases k <;> rfl
theorem prs_a (k : Nat) (l : List UInt8) : prs (k + 1) (97 :: l) = some (.lt .la, l) := rfl
theorem prs_b (k : Nat) (l : List UInt8) : prs (k + 1) (98 :: l) = some (.lt .lb, l) := rfl
theorem prs_c (k : Nat) (l : List UInt8) : prs (k + 1) (99 :: l) = some (.lt .lc, l) := rfl
theorem prs_0 (k : Nat) (l : List UInt8) : prs (k + 1) (48 :: l) = some (.tru false, l) := rfl
theorem prs_1 (k : Nat) (l : List UInt8) : prs (k + 1) (49 :: l) = some (.tru true, l) := rfl
theorem prs_n (k : Nat) (l : List UInt8) : prs (k + 1) (33 :: l) = (match prs k l with | none => none | some (x, r) => some (.neg x, r)) := rfl
theorem prs_p (k : Nat) (l : List UInt8) : prs (k + 1) (40 :: l) = prp (prs k) l := rfl
theorem prs_o (k : Nat) {c : UInt8} (l : List UInt8) (h : PrsOther c) : prs (k + 1) (c :: l) = none := by
  obtain ⟨h1, h2, h3, h4, h5, h6, h7⟩ := h
  simp [prs, h1, h2, h3, h4, h5, h6, h7]

theorem byte_cases (c : UInt8) : c = 97 ∨ c = 98 ∨ c = 99 ∨ c = 48 ∨ c = 49 ∨ c = 33 ∨ c = 40 ∨ PrsOther c := by
  by_cases h1 : c = 97
  · exact .inl h1
  by_cases h2 : c = 98
  · exact .inr (.inl h2)
  by_cases h3 : c = 99
  · exact .inr (.inr (.inl h3))
  by_cases h4 : c = 48
  · exact .inr (.inr (.inr (.inl h4)))
  by_cases h5 : c = 49
  · exact .inr (.inr (.inr (.inr (.inl h5))))
  by_cases h6 : c = 33
  · exact .inr (.inr (.inr (.inr (.inr (.inl h6)))))
  by_cases h7 : c = 40
  · exact .inr (.inr (.inr (.inr (.inr (.inr (.inl h7))))))
  exact .inr (.inr (.inr (.inr (.inr (.inr (.inr ⟨h1, h2, h3, h4, h5, h6, h7⟩))))))

theorem prs_sound : ∀ (k : Nat) (l : List UInt8) (t : Tr) (r : List UInt8), prs k l = some (t, r) → l = t.txt ++ r := by
  intro k
  induction k with
  | zero => intro l t r h; cases h
  | succ k ih =>
    intro l t r h
    cases l with
    | nil => cases h
    | cons c l =>
      rcases byte_cases c with rfl | rfl | rfl | rfl | rfl | rfl | rfl | ho
      · rw [prs_a] at h; cases h; rfl
      · rw [prs_b] at h; cases h; rfl
      · rw [prs_c] at h; cases h; rfl
      · rw [prs_0] at h; cases h; rfl
      · rw [prs_1] at h; cases h; rfl
      · rw [prs_n] at h
        split at h
        · cases h
        · rename_i x q hq
          cases h
          rw [ih _ _ _ hq]; rfl
      · rw [prs_p] at h
        unfold prp at h
        split at h
        · cases h
        · cases h
        · rename_i x d q hq
          split at h
          · cases h
          · rename_i g hg
            split at h
            · cases h
            · cases h
            · rename_i y e q' hq'
              split at h
              · rename_i he
                cases h
                rw [ih _ _ _ hq, ih _ _ _ hq', sgOf_some hg, he]
                simp [Tr.txt]
              · cases h
      · rw [prs_o k l ho] at h; cases h

theorem prs_lt {k : Nat} {l r : List UInt8} {t : Tr} (h : prs k l = some (t, r)) : r.length < l.length := by
  have e := prs_sound _ _ _ _ h
  have p := txt_pos t
  rw [e, List.length_append]; omega

theorem prs_full : ∀ (t : Tr) (k : Nat) (r : List UInt8), t.txt.length ≤ k → prs k (t.txt ++ r) = some (t, r) := by
  intro t
  induction t with
  | lt x =>
    intro k r h
    obtain ⟨k, rfl⟩ : ∃ j, k = j + 1 := ⟨k - 1, by simp [Tr.txt] at h; omega⟩
    cases x <;> rfl
  | tru b =>
    intro k r h
    obtain ⟨k, rfl⟩ : ∃ j, k = j + 1 := ⟨k - 1, by simp [Tr.txt] at h; omega⟩
    cases b <;> rfl
  | neg x ih =>
    intro k r h
    obtain ⟨k, rfl⟩ : ∃ j, k = j + 1 := ⟨k - 1, by simp [Tr.txt] at h; omega⟩
    show prs (k + 1) (33 :: (x.txt ++ r)) = _
    rw [prs_n, ih k r (by simp [Tr.txt] at h; omega)]
  | bin g x y ihx ihy =>
    intro k r h
    obtain ⟨k, rfl⟩ : ∃ j, k = j + 1 := ⟨k - 1, by simp [Tr.txt] at h; omega⟩
    have e : (Tr.bin g x y).txt ++ r = 40 :: (x.txt ++ (g.byte :: (y.txt ++ (41 :: r)))) := by simp [Tr.txt]
    rw [e, prs_p]
    have hl : x.txt.length + y.txt.length + 3 ≤ k + 1 := by simp [Tr.txt] at h; omega
    unfold prp
    rw [ihx k _ (by omega)]
    show (match sgOf g.byte with | none => none | some g' => _) = _
    rw [sgOf_byte]
    show (match prs k (y.txt ++ 41 :: r) with | none => none | some (_, []) => none | some (y', e :: q) => if e = 41 then some (Tr.bin g x y', q) else none) = _
    rw [ihy k _ (by omega)]
    simp

/-- The tree of which a text is the whole text. -/
def par (l : List UInt8) : Option Tr :=
  match prs l.length l with
  | some (t, []) => some t
  | _ => none

theorem par_txt (t : Tr) : par t.txt = some t := by
  have h := prs_full t t.txt.length [] (Nat.le_refl _)
  rw [List.append_nil] at h
  unfold par
  rw [h]
theorem par_some {l : List UInt8} {t : Tr} (h : par l = some t) : l = t.txt := by
  unfold par at h
  split at h
  · rename_i u hu
    cases h
    have e := prs_sound _ _ _ _ hu
    rw [List.append_nil] at e; exact e
  · cases h
/-- The tree of a formula, a text of at most 60 bytes. -/
def fOf (l : List UInt8) : Option Tr := if l.length ≤ 60 then par l else none
theorem fOf_some {l : List UInt8} {t : Tr} (h : fOf l = some t) : l = t.txt ∧ t.txt.length ≤ 60 := by
  unfold fOf at h
  split at h
  · rename_i hl
    have e := par_some h
    exact ⟨e, by rw [← e]; exact hl⟩
  · cases h
theorem fOf_txt {t : Tr} (h : t.txt.length ≤ 60) : fOf t.txt = some t := by unfold fOf; rw [if_pos h, par_txt]
theorem fOf_long {l : List UInt8} (h : 60 < l.length) : fOf l = none := by unfold fOf; rw [if_neg (by omega)]
theorem fOf_short {l : List UInt8} (h : l.length ≤ 60) : fOf l = par l := by unfold fOf; rw [if_pos h]

def isF (l : List UInt8) : Bool := (fOf l).isSome
theorem isF_t {l : List UInt8} {t : Tr} (h : fOf l = some t) : isF l = true := by unfold isF; rw [h]; rfl
theorem isF_f {l : List UInt8} (h : fOf l = none) : isF l = false := by unfold isF; rw [h]; rfl
theorem isF_of {l : List UInt8} (h : isF l = true) : ∃ t, fOf l = some t := by
  unfold isF at h
  cases e : fOf l with
  | none => rw [e] at h; cases h
  | some t => exact ⟨t, rfl⟩
theorem isF_not {l : List UInt8} (h : isF l = false) : fOf l = none := by
  unfold isF at h
  cases e : fOf l with
  | none => rfl
  | some t => rw [e] at h; cases h

/-! Letters. -/
def Tr.ls : Tr → Nat
  | .lt _ => 1
  | .tru _ => 0
  | .neg x => x.ls
  | .bin _ x y => x.ls + y.ls
theorem ls_le : ∀ t : Tr, t.ls ≤ t.txt.length
  | .lt _ => by simp [Tr.txt, Tr.ls]
  | .tru _ => by simp [Tr.txt, Tr.ls]
  | .neg x => by have := ls_le x; simp [Tr.txt, Tr.ls]; omega
  | .bin _ x y => by have := ls_le x; have := ls_le y; simp [Tr.txt, Tr.ls]; omega

def isL (c : UInt8) : Bool := decide (97 ≤ (c.toNat : Int) ∧ (c.toNat : Int) ≤ 99)
def nL (l : List UInt8) : Nat := (l.filter isL).length
theorem nL_app (l m : List UInt8) : nL (l ++ m) = nL l + nL m := by unfold nL; rw [List.filter_append, List.length_append]
theorem nL_cons (c : UInt8) (m : List UInt8) : nL (c :: m) = (if isL c then 1 else 0) + nL m := by
  unfold nL; rw [List.filter_cons]
  split
  · rw [List.length_cons]; omega
  · omega
theorem nL_txt : ∀ t : Tr, nL t.txt = t.ls
  | .lt k => by cases k <;> rfl
  | .tru b => by cases b <;> rfl
  | .neg x => by
    show nL (33 :: x.txt) = x.ls
    rw [nL_cons, nL_txt x]
    have : isL 33 = false := by decide
    simp [this]
  | .bin g x y => by
    show nL (40 :: (x.txt ++ g.byte :: (y.txt ++ [41]))) = x.ls + y.ls
    rw [nL_cons, nL_app, nL_cons, nL_app, nL_txt x, nL_txt y]
    have h1 : isL 40 = false := by decide
    have h2 : isL g.byte = false := by cases g <;> decide
    have h3 : nL [41] = 0 := by decide
    simp [h1, h2, h3]

/-! Written with following and false alone. -/
def Tr.F : Tr := .tru false
def Tr.no (x : Tr) : Tr := .bin .fol x .F
def Tr.bas : Tr → Tr
  | .lt k => .lt k
  | .tru false => .tru false
  | .tru true => .bin .fol .F .F
  | .neg x => .no x.bas
  | .bin .fol x y => .bin .fol x.bas y.bas
  | .bin .plus x y => .bin .fol (.no x.bas) y.bas
  | .bin .times x y => .no (.bin .fol x.bas (.no y.bas))
  | .bin .less x y => .no (.bin .fol x.bas (.no (.bin .fol x.bas y.bas)))
  | .bin .great x y => .bin .fol (.bin .fol x.bas y.bas) y.bas

theorem fol_len (x y : Tr) : (Tr.bin .fol x y).txt.length = x.txt.length + y.txt.length + 3 := by simp [Tr.txt]; omega
theorem no_len (x : Tr) : (Tr.no x).txt.length = x.txt.length + 4 := by rw [Tr.no, fol_len]; rfl
theorem bin_len (g : Sg) (x y : Tr) : (Tr.bin g x y).txt.length = x.txt.length + y.txt.length + 3 := by simp [Tr.txt]; omega

/-- How long what is written so is at most, by the length of what it is written of. -/
def gB (u : Nat) : Nat := 30 * 2 ^ (u / 2) + 10 * u
def gBtest : Bool := (List.range 61).all fun x => (List.range 61).all fun y => decide (x + y + 3 ≤ 60 → 1 ≤ x → 1 ≤ y → 2 * gB x + gB y + 14 ≤ gB (x + y + 3) ∧ gB x + 2 * gB y + 14 ≤ gB (x + y + 3) ∧ gB x + 4 ≤ gB (x + 1) ∧ 5 ≤ gB x)
theorem gB_ok : gBtest = true := by decide +kernel
theorem gB_of {x y : Nat} (h : x + y + 3 ≤ 60) (hx : 1 ≤ x) (hy : 1 ≤ y) : 2 * gB x + gB y + 14 ≤ gB (x + y + 3) ∧ gB x + 2 * gB y + 14 ≤ gB (x + y + 3) := by
  have t := gB_ok
  unfold gBtest at t
  rw [List.all_eq_true] at t
  have t1 := t x (by simp; omega)
  rw [List.all_eq_true] at t1
  have t2 := t1 y (by simp; omega)
  have t3 := of_decide_eq_true t2 h hx hy
  exact ⟨t3.1, t3.2.1⟩
theorem gB_step (x : Nat) : gB x + 4 ≤ gB (x + 1) := by
  unfold gB
  have : 2 ^ (x / 2) ≤ 2 ^ ((x + 1) / 2) := Nat.pow_le_pow_right (by omega) (by omega)
  omega
theorem gB_mono {x y : Nat} (h : x ≤ y) : gB x ≤ gB y := by
  unfold gB
  have : 2 ^ (x / 2) ≤ 2 ^ (y / 2) := Nat.pow_le_pow_right (by omega) (by omega)
  omega
theorem gB_60 : gB 60 = 32212255320 := by decide +kernel
theorem bas_len : ∀ t : Tr, t.txt.length ≤ 60 → t.bas.txt.length ≤ gB t.txt.length := by
  intro t
  induction t with
  | lt k => intro _; cases k <;> decide
  | tru b => intro _; cases b <;> decide
  | neg x ih =>
    intro h
    have e : (Tr.neg x).txt.length = x.txt.length + 1 := by simp [Tr.txt]
    rw [e] at h ⊢
    have := ih (by omega)
    have := gB_step x.txt.length
    show (Tr.no x.bas).txt.length ≤ _
    rw [no_len]; omega
  | bin g x y ihx ihy =>
    intro h
    rw [bin_len] at h ⊢
    have := ihx (by omega)
    have := ihy (by omega)
    have := gB_of h (txt_pos x) (txt_pos y)
    cases g
    · show (Tr.bin .fol x.bas y.bas).txt.length ≤ _
      rw [fol_len]; omega
    · show (Tr.bin .fol (.no x.bas) y.bas).txt.length ≤ _
      rw [fol_len, no_len]; omega
    · show (Tr.no (.bin .fol x.bas (.no y.bas))).txt.length ≤ _
      rw [no_len, fol_len, no_len]; omega
    · show (Tr.no (.bin .fol x.bas (.no (.bin .fol x.bas y.bas)))).txt.length ≤ _
      rw [no_len, fol_len, no_len, fol_len]; omega
    · show (Tr.bin .fol (.bin .fol x.bas y.bas) y.bas).txt.length ≤ _
      rw [fol_len, fol_len]; omega
theorem bas_small {t : Tr} (h : t.txt.length ≤ 60) : t.bas.txt.length ≤ 32212255320 := by
  have := bas_len t h
  have := gB_mono h
  have := gB_60
  omega

/-- The text of a tree, none if it has more than 60 bytes. -/
def Tr.lim (t : Tr) : List UInt8 := if t.txt.length ≤ 60 then t.txt else []
theorem lim_t {t : Tr} (h : t.txt.length ≤ 60) : t.lim = t.txt := if_pos h
theorem lim_f {t : Tr} (h : ¬ t.txt.length ≤ 60) : t.lim = [] := if_neg h
theorem lim_len (t : Tr) : t.lim.length ≤ 60 := by
  by_cases h : t.txt.length ≤ 60
  · rw [lim_t h]; exact h
  · rw [lim_f h]; simp

/-- BasicOf, as plain texts. -/
def basT (l : List UInt8) : List UInt8 := match fOf l with | some t => t.bas.lim | none => []
def basB (l : List UInt8) : Bool := match fOf l with | some t => decide (t.bas.txt.length ≤ 60) | none => false
theorem basT_t {l : List UInt8} {t : Tr} (h : fOf l = some t) : basT l = t.bas.lim := by unfold basT; rw [h]
theorem basB_t {l : List UInt8} {t : Tr} (h : fOf l = some t) : basB l = decide (t.bas.txt.length ≤ 60) := by unfold basB; rw [h]
theorem basT_f {l : List UInt8} (h : fOf l = none) : basT l = [] := by unfold basT; rw [h]
theorem basB_f {l : List UInt8} (h : fOf l = none) : basB l = false := by unfold basB; rw [h]
theorem basT_no {l : List UInt8} (h : basB l = false) : basT l = [] := by
  cases e : fOf l with
  | none => exact basT_f e
  | some t =>
    rw [basB_t e] at h
    have hl := of_decide_eq_false h
    rw [basT_t e, lim_f hl]

/-- LettersIn, as a plain number. -/
def lsI (l : List UInt8) : Int := match fOf l with | some t => (t.ls : Int) | none => -1
theorem lsI_t {l : List UInt8} {t : Tr} (h : fOf l = some t) : lsI l = (t.ls : Int) := by unfold lsI; rw [h]
theorem lsI_f {l : List UInt8} (h : fOf l = none) : lsI l = -1 := by unfold lsI; rw [h]

end Go.Proofs.YtlnffpofbfigaaaGreatDoor
