/-
  A pair of brackets around two texts is a formula only if both are: so a deed may be tried without asking first. No program is named.
-/
import Derived.Test.YtlnffpofbfigaaaGreatDoorDesk
namespace Go.Proofs.YtlnffpofbfigaaaGreatDoor

/-- How many brackets are opened more than closed. -/
def dp : List UInt8 → Int
  | [] => 0
  | c :: l => (if c = 40 then 1 else if c = 41 then -1 else 0) + dp l
theorem dp_app : ∀ l m : List UInt8, dp (l ++ m) = dp l + dp m
  | [], m => by simp [dp]
  | c :: l, m => by
    show (if c = 40 then 1 else if c = 41 then -1 else 0) + dp (l ++ m) = (if c = 40 then 1 else if c = 41 then -1 else 0) + dp l + dp m
    rw [dp_app l m, Int.add_assoc]
theorem dp_sg (g : Sg) (l : List UInt8) : dp (g.byte :: l) = dp l := by cases g <;> simp [dp, Sg.byte]
theorem dp_end : dp [41] = -1 := rfl
theorem dp_txt : ∀ t : Tr, dp t.txt = 0
  | .lt k => by cases k <;> rfl
  | .tru b => by cases b <;> rfl
  | .neg x => by
    show (if (33 : UInt8) = 40 then 1 else if (33 : UInt8) = 41 then -1 else 0) + dp x.txt = 0
    rw [dp_txt x]; rfl
  | .bin g x y => by
    show (if (40 : UInt8) = 40 then 1 else if (40 : UInt8) = 41 then -1 else 0) + dp (x.txt ++ g.byte :: (y.txt ++ [41])) = 0
    rw [dp_app, dp_sg, dp_app, dp_txt x, dp_txt y, dp_end]; rfl
theorem sg_no (g : Sg) : g.byte ≠ 40 ∧ g.byte ≠ 41 ∧ g.byte ≠ 33 := by cases g <;> decide
/-- Behind a sign within a formula more brackets are closed than opened. -/
theorem dp_cut : ∀ (t : Tr) (g : Sg) (u v : List UInt8), t.txt = u ++ g.byte :: v → dp v < 0
  | .lt k, g, u, v, h => by
    cases u with
    | nil => cases k <;> cases g <;> simp [Tr.txt, Lr.byte, Sg.byte] at h
    | cons c u => simp [Tr.txt] at h
  | .tru b, g, u, v, h => by
    cases u with
    | nil => cases b <;> cases g <;> simp [Tr.txt, Sg.byte] at h
    | cons c u => simp [Tr.txt] at h
  | .neg x, g, u, v, h => by
    cases u with
    | nil =>
      have : (33 : UInt8) = g.byte := (List.cons.inj h).1
      exact absurd this.symm (sg_no g).2.2
    | cons c u => exact dp_cut x g u v (List.cons.inj h).2
  | .bin o x y, g, u, v, h => by
    cases u with
    | nil =>
      have : (40 : UInt8) = g.byte := (List.cons.inj h).1
      exact absurd this.symm (sg_no g).1
    | cons c u =>
      have h2 : x.txt ++ o.byte :: (y.txt ++ [41]) = u ++ g.byte :: v := (List.cons.inj h).2
      rcases List.append_eq_append_iff.1 h2 with ⟨a, e1, e2⟩ | ⟨a, e1, e2⟩
      · cases a with
        | nil =>
          obtain ⟨_, e3⟩ := List.cons.inj e2
          rw [← e3, dp_app, dp_txt y, dp_end]; decide
        | cons d a =>
          obtain ⟨_, e3⟩ := List.cons.inj e2
          rcases List.append_eq_append_iff.1 e3 with ⟨b, f1, f2⟩ | ⟨b, f1, f2⟩
          · cases b with
            | nil => exact absurd (List.cons.inj f2).1.symm (sg_no g).2.1
            | cons _ b => have := (List.cons.inj f2).2; simp at this
          · cases b with
            | nil => exact absurd (List.cons.inj f2).1 (sg_no g).2.1
            | cons z b =>
              obtain ⟨f3, f4⟩ := List.cons.inj f2
              subst f3
              have := dp_cut y g a b f1
              rw [f4]; show dp (b ++ [41]) < 0
              rw [dp_app, dp_end]; omega
      · cases a with
        | nil =>
          obtain ⟨_, e3⟩ := List.cons.inj e2
          rw [e3, dp_app, dp_txt y, dp_end]; decide
        | cons z a =>
          obtain ⟨f3, f4⟩ := List.cons.inj e2
          subst f3
          have := dp_cut x g u a e1
          rw [f4]; show dp (a ++ o.byte :: (y.txt ++ [41])) < 0
          rw [dp_app, dp_sg, dp_app, dp_txt y, dp_end]; omega

theorem isF_bin {l : List UInt8} (h : isF (40 :: (l ++ [41])) = true) : ∃ g x y, l = Tr.txt x ++ Sg.byte g :: Tr.txt y ∧ (Tr.txt x).length + (Tr.txt y).length ≤ 57 := by
  obtain ⟨t, ht⟩ := isF_of h
  obtain ⟨e, hl⟩ := fOf_some ht
  cases t with
  | lt k => cases k <;> simp [Tr.txt, Lr.byte] at e
  | tru b => cases b <;> simp [Tr.txt] at e
  | neg x => simp [Tr.txt] at e
  | bin g x y =>
    have e2 : l ++ [41] = (x.txt ++ g.byte :: y.txt) ++ [41] := by
      have := (List.cons.inj e).2
      rw [this]; simp
    have e3 := List.append_cancel_right e2
    refine ⟨g, x, y, e3, ?_⟩
    simp [Tr.txt] at hl
    omega
theorem isF_txt {t : Tr} (h : t.txt.length ≤ 60) : isF t.txt = true := isF_t (fOf_txt h)
/-- The first one a formula, so is the second one; the second one a formula, so is the first one. -/
theorem isF_right {x t : List UInt8} {c : UInt8} (hx : isF x = true) (h : isF (40 :: (x ++ c :: (t ++ [41]))) = true) : isF t = true := by
  obtain ⟨u, hu⟩ := isF_of hx
  obtain ⟨eu, lu⟩ := fOf_some hu
  obtain ⟨g, a, b, e, hl⟩ := isF_bin (l := x ++ c :: t) (by rw [List.append_assoc]; exact h)
  have p1 := prs_full u (u.txt.length + a.txt.length) (c :: t) (by omega)
  have p2 := prs_full a (u.txt.length + a.txt.length) (g.byte :: b.txt) (by omega)
  rw [← eu, e] at p1
  rw [eu] at p1
  rw [p1] at p2
  simp only [Option.some.injEq, Prod.mk.injEq, List.cons.injEq] at p2
  rw [p2.2.2]
  exact isF_txt (by omega)
theorem isF_left {x t : List UInt8} (hx : isF x = true) (h : isF (40 :: (t ++ 62 :: (x ++ [41]))) = true) : isF t = true := by
  obtain ⟨u, hu⟩ := isF_of hx
  obtain ⟨eu, lu⟩ := fOf_some hu
  obtain ⟨g, a, b, e, hl⟩ := isF_bin (l := t ++ 62 :: x) (by rw [List.append_assoc]; exact h)
  rw [eu] at e
  rcases List.append_eq_append_iff.1 e with ⟨c, e1, e2⟩ | ⟨c, e1, e2⟩
  · cases c with
    | nil => rw [List.append_nil] at e1; rw [← e1]; exact isF_txt (by omega)
    | cons d c =>
      obtain ⟨e3, e4⟩ := List.cons.inj e2
      have := dp_cut u g c b.txt e4
      rw [dp_txt] at this
      omega
  · cases c with
    | nil => rw [List.append_nil] at e1; rw [e1]; exact isF_txt (by omega)
    | cons d c =>
      obtain ⟨e3, e4⟩ := List.cons.inj e2
      have := dp_cut b .fol c u.txt (by rw [e4]; rfl)
      rw [dp_txt] at this
      omega

/-- The names that a deed may bear, and chain and formula after it. -/
def namesB (a : Dd) : Bool :=
  if a.1 = 0 then a.2.2.isEmpty
  else if a.1 = 1 ∨ a.1 = 3 ∨ a.1 = 4 then decide (a.2.1 = 0)
  else decide (a.2.1 = 0) && a.2.2.isEmpty
def aft (x : Ld) (a : Dd) : Ld :=
  if a.1 = 0 then (a.2.1, x.2)
  else if a.1 = 1 then (x.1, a.2.2)
  else if a.1 = 2 then (x.1, 33 :: x.2)
  else if a.1 = 3 then (x.1, 40 :: (x.2 ++ 42 :: (a.2.2 ++ [41])))
  else if a.1 = 4 then (x.1, 40 :: (a.2.2 ++ 62 :: (x.2 ++ [41])))
  else if a.1 = 5 then (x.1, basT x.2)
  else x
theorem names_no {x : Ld} {a : Dd} (h : namesB a = false) : a ≠ (6, 0, []) ∧ newD x a = none := by
  obtain ⟨k, n, t⟩ := a
  refine ⟨fun e => ?_, newD_raw ?_⟩
  · rw [e] at h; cases h
  · unfold namesB at h
    unfold rawD
    simp only [] at h ⊢
    by_cases k0 : k = 0
    · subst k0
      have ht : t ≠ [] := by intro e; subst e; simp at h
      simp [ht]
    · rw [if_neg k0] at h
      by_cases k1 : k = 1 ∨ k = 3 ∨ k = 4
      · rw [if_pos k1] at h
        have hn : n ≠ 0 := of_decide_eq_false h
        rcases k1 with rfl | rfl | rfl <;> simp [hn]
      · rw [if_neg k1] at h
        have hn : ¬ (n = 0 ∧ t = []) := by
          intro e
          rw [e.1, e.2] at h
          simp at h
        have c2 : ¬ ((k, n, t) : Dd) = (2, 0, []) := by intro e; simp at e; exact hn e.2
        have c5 : ¬ ((k, n, t) : Dd) = (5, 0, []) := by intro e; simp at e; exact hn e.2
        have n1 : k ≠ 1 := fun e => k1 (.inl e)
        have n3 : k ≠ 3 := fun e => k1 (.inr (.inl e))
        have n4 : k ≠ 4 := fun e => k1 (.inr (.inr e))
        rw [if_neg (by simp [k0]), if_neg (by simp [n1]), if_neg c2, if_neg (by simp [n3]), if_neg (by simp [n4]), if_neg (by simp [c5])]
theorem ldB_no {n : Int} {s : List UInt8} (h : isF s = false) : ldB (n, s) = false := by unfold ldB; rw [h, Bool.and_false]
theorem isF_f' {s : List UInt8} (h : ¬ isF s = true) : isF s = false := by simpa using h
theorem bas_none {s : List UInt8} (h : ¬ basB s = true) : isF (basT s) = false := by
  rw [basT_no (by simpa using h)]; rfl
theorem aft_new {x : Ld} {a : Dd} (hx : ldB x = true) (h : namesB a = true) (h6 : a.1 ≠ 6) : newD x a = if ldB (aft x a) = true ∧ aft x a ≠ x then some (aft x a) else none := by
  obtain ⟨hx1, hx2⟩ := ldB_of hx
  have out : ∀ {y : Ld}, rawD x a = some y → aft x a = y → newD x a = if ldB (aft x a) = true ∧ aft x a ≠ x then some (aft x a) else none := by
    intro y h1 h2
    unfold newD
    rw [h1, h2]
  have nil : ∀ {y : Ld}, rawD x a = none → aft x a = y → (ldB y = false ∨ y = x) → newD x a = if ldB (aft x a) = true ∧ aft x a ≠ x then some (aft x a) else none := by
    intro y h1 h2 h3
    rw [newD_raw h1, h2]
    symm
    refine if_neg fun hh => ?_
    rcases h3 with h3 | h3
    · rw [h3] at hh; exact absurd hh.1 (by simp)
    · exact hh.2 h3
  obtain ⟨k, n, t⟩ := a
  unfold namesB at h
  simp only [] at h h6
  by_cases k0 : k = 0
  · subst k0
    have ht : t = [] := by simpa using h
    subst ht
    exact out (y := (n, x.2)) (by simp [rawD]) (by simp [aft])
  rw [if_neg k0] at h
  by_cases k1 : k = 1
  · subst k1
    have hn : n = 0 := by simpa using h
    subst hn
    exact out (y := (x.1, t)) (by simp [rawD]) (by simp [aft])
  by_cases k3 : k = 3
  · subst k3
    have hn : n = 0 := by simpa using h
    subst hn
    by_cases ht : isF t = true
    · exact out (y := (x.1, 40 :: (x.2 ++ 42 :: (t ++ [41])))) (by simp [rawD, ht]) (by simp [aft])
    · refine nil (y := (x.1, 40 :: (x.2 ++ 42 :: (t ++ [41])))) (by simp [rawD, ht]) (by simp [aft]) (.inl (ldB_no (isF_f' fun hh => ht (isF_right hx2 hh))))
  by_cases k4 : k = 4
  · subst k4
    have hn : n = 0 := by simpa using h
    subst hn
    by_cases ht : isF t = true
    · exact out (y := (x.1, 40 :: (t ++ 62 :: (x.2 ++ [41])))) (by simp [rawD, ht]) (by simp [aft])
    · refine nil (y := (x.1, 40 :: (t ++ 62 :: (x.2 ++ [41])))) (by simp [rawD, ht]) (by simp [aft]) (.inl (ldB_no (isF_f' fun hh => ht (isF_left hx2 hh))))
  rw [if_neg (by simp [k1, k3, k4]), Bool.and_eq_true, decide_eq_true_eq, List.isEmpty_iff] at h
  obtain ⟨rfl, rfl⟩ := h
  by_cases k2 : k = 2
  · subst k2
    exact out (y := (x.1, 33 :: x.2)) (by simp [rawD]) (by simp [aft])
  by_cases k5 : k = 5
  · subst k5
    by_cases hb : basB x.2 = true
    · exact out (y := (x.1, basT x.2)) (by simp [rawD, hb]) (by simp [aft])
    · exact nil (y := (x.1, basT x.2)) (by simp [rawD, hb]) (by simp [aft]) (.inl (ldB_no (bas_none hb)))
  exact nil (y := x) (by simp [rawD, k0, k1, k2, k3, k4, k5]) (by simp [aft, k0, k1, k2, k3, k4, k5]) (.inr rfl)

/-- What DeskDo answers with. -/
def nilDk : Dk := ((0, []), [])
def doR (d : Dk) (a : Dd) : Dk × Bool :=
  if dkB d = true then (match doD d a with | some e => (e, true) | none => (d, false)) else (nilDk, false)
theorem doR_no {d : Dk} {a : Dd} (h : dkB d = false) : doR d a = (nilDk, false) := by unfold doR; rw [h]; rfl
theorem doR_some {d e : Dk} {a : Dd} (h : dkB d = true) (k : doD d a = some e) : doR d a = (e, true) := by unfold doR; rw [if_pos h, k]
theorem doR_none {d : Dk} {a : Dd} (h : dkB d = true) (k : doD d a = none) : doR d a = (d, false) := by unfold doR; rw [if_pos h, k]

end Go.Proofs.YtlnffpofbfigaaaGreatDoor
