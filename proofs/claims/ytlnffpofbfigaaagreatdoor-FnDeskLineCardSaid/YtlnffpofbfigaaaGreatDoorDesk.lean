/-
  A desk, deeds and their texts, journals: as plain numbers and lists of bytes. No program is named.
-/
import Derived.Test.YtlnffpofbfigaaaGreatDoorBase
import Derived.Test.YtlnffpofbfigaaaGreatDoorForm
namespace Go.Proofs.YtlnffpofbfigaaaGreatDoor

/-- A chain's steps and a formula's text; what a desk has now and had before, the last ones last; a deed's kind, steps and text. -/
abbrev Ld := Int × List UInt8
abbrev Dk := Ld × List Ld
abbrev Dd := Int × Int × List UInt8

def ldB (x : Ld) : Bool := inB x.1 1 6 && isF x.2
theorem ldB_of {x : Ld} (h : ldB x = true) : inB x.1 1 6 = true ∧ isF x.2 = true := by unfold ldB at h; rwa [Bool.and_eq_true] at h
theorem ldB_mk {x : Ld} (h : inB x.1 1 6 = true) (k : isF x.2 = true) : ldB x = true := by unfold ldB; rw [h, k]; rfl
def dkB (d : Dk) : Bool := d.2.all ldB && (ldB d.1 && decide (d.2.length ≤ 8))
theorem dkB_of {d : Dk} (h : dkB d = true) : (∀ x ∈ d.2, ldB x = true) ∧ ldB d.1 = true ∧ d.2.length ≤ 8 := by
  unfold dkB at h
  rw [Bool.and_eq_true, Bool.and_eq_true, List.all_eq_true] at h
  exact ⟨h.1, h.2.1, of_decide_eq_true h.2.2⟩
theorem dkB_mk {d : Dk} (h : ∀ x ∈ d.2, ldB x = true) (k : ldB d.1 = true) (hl : d.2.length ≤ 8) : dkB d = true := by
  unfold dkB
  rw [Bool.and_eq_true, Bool.and_eq_true, List.all_eq_true]
  exact ⟨h, k, decide_eq_true hl⟩
theorem dkB_bare {d : Dk} (h : dkB d = true) : dkB (d.1, []) = true := dkB_mk (by simp) (dkB_of h).2.1 (by simp)

/-- What a deed makes of a chain and a formula, be they ones or not. -/
def rawD (x : Ld) (a : Dd) : Option Ld :=
  if a.1 = 0 ∧ a.2.2 = [] then some (a.2.1, x.2)
  else if a.1 = 1 ∧ a.2.1 = 0 then some (x.1, a.2.2)
  else if a = (2, 0, []) then some (x.1, 33 :: x.2)
  else if a.1 = 3 ∧ a.2.1 = 0 ∧ isF a.2.2 = true then some (x.1, 40 :: (x.2 ++ 42 :: (a.2.2 ++ [41])))
  else if a.1 = 4 ∧ a.2.1 = 0 ∧ isF a.2.2 = true then some (x.1, 40 :: (a.2.2 ++ 62 :: (x.2 ++ [41])))
  else if a = (5, 0, []) ∧ basB x.2 = true then some (x.1, basT x.2)
  else none
def newD (x : Ld) (a : Dd) : Option Ld :=
  match rawD x a with
  | some y => if ldB y = true ∧ y ≠ x then some y else none
  | none => none
theorem newD_of {x y : Ld} {a : Dd} (h : newD x a = some y) : rawD x a = some y ∧ ldB y = true ∧ y ≠ x := by
  unfold newD at h
  cases e : rawD x a with
  | none => rw [e] at h; cases h
  | some z =>
    rw [e] at h
    simp only [] at h
    split at h
    · rename_i hz; cases h; exact ⟨rfl, hz.1, hz.2⟩
    · cases h
theorem newD_mk {x y : Ld} {a : Dd} (h : rawD x a = some y) (k : ldB y = true) (hn : y ≠ x) : newD x a = some y := by
  unfold newD; rw [h]; exact if_pos ⟨k, hn⟩
theorem newD_raw {x : Ld} {a : Dd} (h : rawD x a = none) : newD x a = none := by unfold newD; rw [h]
theorem newD_bad {x y : Ld} {a : Dd} (h : rawD x a = some y) (k : ldB y = false ∨ y = x) : newD x a = none := by
  unfold newD; rw [h]
  refine if_neg fun hh => ?_
  rcases k with k | k
  · rw [k] at hh; exact absurd hh.1 (by simp)
  · exact hh.2 k

def capP (l : List Ld) : List Ld := l.drop (l.length - 8)
theorem capP_short {l : List Ld} (h : l.length ≤ 8) : capP l = l := by unfold capP; rw [show l.length - 8 = 0 by omega]; rfl
theorem capP_nine {l : List Ld} (h : l.length = 9) : capP l = l.drop 1 := by unfold capP; rw [h]
theorem capP_len (l : List Ld) : (capP l).length ≤ 8 := by unfold capP; rw [List.length_drop]; omega
theorem capP_mem {l : List Ld} {x : Ld} (h : x ∈ capP l) : x ∈ l := List.mem_of_mem_drop h

/-- A desk after a deed, none if it cannot be done. -/
def doD (d : Dk) (a : Dd) : Option Dk :=
  if a = (6, 0, []) then (match d.2.getLast? with | some p => some (p, d.2.dropLast) | none => none)
  else match newD d.1 a with
    | some y => some (y, capP (d.2 ++ [d.1]))
    | none => none
theorem doD_back {d : Dk} {p : Ld} (h : d.2.getLast? = some p) : doD d (6, 0, []) = some (p, d.2.dropLast) := by unfold doD; rw [if_pos rfl, h]
theorem doD_back0 {d : Dk} (h : d.2 = []) : doD d (6, 0, []) = none := by unfold doD; rw [if_pos rfl, h]; rfl
theorem doD_new {d : Dk} {a : Dd} {y : Ld} (ha : a ≠ (6, 0, [])) (h : newD d.1 a = some y) : doD d a = some (y, capP (d.2 ++ [d.1])) := by unfold doD; rw [if_neg ha, h]
theorem doD_none {d : Dk} {a : Dd} (ha : a ≠ (6, 0, [])) (h : newD d.1 a = none) : doD d a = none := by unfold doD; rw [if_neg ha, h]
theorem doD_of {d e : Dk} {a : Dd} (h : doD d a = some e) : (a = (6, 0, []) ∧ ∃ p, d.2.getLast? = some p ∧ e = (p, d.2.dropLast)) ∨ (a ≠ (6, 0, []) ∧ ∃ y, newD d.1 a = some y ∧ e = (y, capP (d.2 ++ [d.1]))) := by
  unfold doD at h
  split at h
  · rename_i ha
    cases hp : d.2.getLast? with
    | none => rw [hp] at h; cases h
    | some p => rw [hp] at h; cases h; exact .inl ⟨ha, p, rfl, rfl⟩
  · rename_i ha
    cases hy : newD d.1 a with
    | none => rw [hy] at h; cases h
    | some y => rw [hy] at h; cases h; exact .inr ⟨ha, y, rfl, rfl⟩

theorem do_ok {d e : Dk} {a : Dd} (hd : dkB d = true) (h : doD d a = some e) : dkB e = true := by
  obtain ⟨h1, h2, h3⟩ := dkB_of hd
  rcases doD_of h with ⟨_, p, hp, rfl⟩ | ⟨_, y, hy, rfl⟩
  · exact dkB_mk (fun x hx => h1 x (List.dropLast_subset _ hx)) (h1 p (List.mem_of_getLast? hp)) (by show d.2.dropLast.length ≤ 8; rw [List.length_dropLast]; omega)
  · refine dkB_mk (fun x hx => ?_) (newD_of hy).2.1 (capP_len _)
    have := capP_mem hx
    rw [List.mem_append, List.mem_singleton] at this
    rcases this with k | k
    · exact h1 x k
    · rw [k]; exact h2
theorem do_back {d e : Dk} {a : Dd} (ha : a.1 ≠ 6) (hl : d.2.length < 8) (h : doD d a = some e) : doD e (6, 0, []) = some d := by
  rcases doD_of h with ⟨rfl, _⟩ | ⟨_, y, _, rfl⟩
  · exact absurd rfl ha
  · have e1 : capP (d.2 ++ [d.1]) = d.2 ++ [d.1] := capP_short (by rw [List.length_append, List.length_singleton]; omega)
    rw [e1, doD_back (d := (y, d.2 ++ [d.1])) (p := d.1) (by simp)]
    simp
theorem raw_basic {x y : Ld} {a : Dd} (ha : a.1 = 5) (h : rawD x a = some y) : basB x.2 = true ∧ y = (x.1, basT x.2) := by
  obtain ⟨k, n, s⟩ := a
  change k = 5 at ha
  subst ha
  unfold rawD at h
  simp at h
  exact ⟨h.1.2, h.2.symm⟩
theorem do_basic {d e : Dk} {a : Dd} (ha : a.1 = 5) (h : doD d a = some e) : basB d.1.2 = true ∧ e.1 = (d.1.1, basT d.1.2) := by
  rcases doD_of h with ⟨rfl, _⟩ | ⟨_, y, hy, rfl⟩
  · cases ha
  · exact raw_basic ha (newD_of hy).1

/-- Deeds one after the other; those that cannot be done are left out; and how many were done. -/
def runD : Dk → List Dd → Dk × Nat
  | d, [] => (d, 0)
  | d, a :: l => match doD d a with
    | some e => ((runD e l).1, (runD e l).2 + 1)
    | none => runD d l
theorem runD_yes {d e : Dk} {a : Dd} (l : List Dd) (h : doD d a = some e) : runD d (a :: l) = ((runD e l).1, (runD e l).2 + 1) := by
  show (match doD d a with | some e => ((runD e l).1, (runD e l).2 + 1) | none => runD d l) = _
  rw [h]
theorem runD_no {d : Dk} {a : Dd} (l : List Dd) (h : doD d a = none) : runD d (a :: l) = runD d l := by
  show (match doD d a with | some e => ((runD e l).1, (runD e l).2 + 1) | none => runD d l) = _
  rw [h]
theorem run_app : ∀ (l m : List Dd) (d : Dk), runD d (l ++ m) = ((runD (runD d l).1 m).1, (runD d l).2 + (runD (runD d l).1 m).2)
  | [], m, d => by simp [runD]
  | a :: l, m, d => by
    cases h : doD d a with
    | none => rw [List.cons_append, runD_no _ h, runD_no _ h]; exact run_app l m d
    | some e =>
      rw [List.cons_append, runD_yes _ h, runD_yes _ h, run_app l m e]
      show ((_ : Dk), _ + _ + 1) = ((_ : Dk), _ + 1 + _)
      rw [Nat.add_right_comm]
theorem run_snoc_yes {d e : Dk} {l : List Dd} {a : Dd} (h : doD (runD d l).1 a = some e) : runD d (l ++ [a]) = (e, (runD d l).2 + 1) := by
  rw [run_app, runD_yes _ h]; rfl
theorem run_snoc_no {d : Dk} {l : List Dd} {a : Dd} (h : doD (runD d l).1 a = none) : runD d (l ++ [a]) = runD d l := by
  rw [run_app, runD_no _ h]; rfl
theorem run_ok : ∀ (l : List Dd) {d : Dk}, dkB d = true → dkB (runD d l).1 = true
  | [], _, h => h
  | a :: l, d, h => by
    cases k : doD d a with
    | none => rw [runD_no _ k]; exact run_ok l h
    | some e => rw [runD_yes _ k]; exact run_ok l (do_ok h k)
theorem run_le : ∀ (l : List Dd) (d : Dk), (runD d l).2 ≤ l.length
  | [], _ => Nat.le_refl _
  | a :: l, d => by
    cases k : doD d a with
    | none => rw [runD_no _ k]; have := run_le l d; simp; omega
    | some e => rw [runD_yes _ k]; have := run_le l e; simp; omega

/-! Texts of deeds. -/
def chainW : List UInt8 := [99, 104, 97, 105, 110, 32]
def sayW : List UInt8 := [115, 97, 121, 32]
def timesW' : List UInt8 := [116, 105, 109, 101, 115, 32]
def ifW : List UInt8 := [105, 102, 32]
def notD : List UInt8 := [110, 111, 116]
def basicD : List UInt8 := [98, 97, 115, 105, 99]
def backD : List UInt8 := [98, 97, 99, 107]

def txD (a : Dd) : List UInt8 :=
  if a.1 = 0 ∧ a.2.2 = [] ∧ inB a.2.1 0 9 = true then chainW ++ [UInt8.ofNat (48 + a.2.1.toNat)]
  else if a.1 = 1 ∧ a.2.1 = 0 ∧ isF a.2.2 = true then sayW ++ a.2.2
  else if a.1 = 3 ∧ a.2.1 = 0 ∧ isF a.2.2 = true then timesW' ++ a.2.2
  else if a.1 = 4 ∧ a.2.1 = 0 ∧ isF a.2.2 = true then ifW ++ a.2.2
  else if a = (2, 0, []) then notD
  else if a = (5, 0, []) then basicD
  else if a = (6, 0, []) then backD
  else []

/-- What a deed must be to have a text, and the text. -/
inductive Told : Dd → List UInt8 → Prop where
  | chain (k : Nat) (h : k ≤ 9) : Told (0, (k : Int), []) (chainW ++ [UInt8.ofNat (48 + k)])
  | say (t : List UInt8) (h : isF t = true) : Told (1, 0, t) (sayW ++ t)
  | times (t : List UInt8) (h : isF t = true) : Told (3, 0, t) (timesW' ++ t)
  | ifs (t : List UInt8) (h : isF t = true) : Told (4, 0, t) (ifW ++ t)
  | nots : Told (2, 0, []) notD
  | basic : Told (5, 0, []) basicD
  | back : Told (6, 0, []) backD
theorem told_of {a : Dd} (h : txD a ≠ []) : Told a (txD a) := by
  obtain ⟨k, n, s⟩ := a
  unfold txD at h ⊢
  split at h
  · rename_i c
    rw [if_pos c]
    obtain ⟨h1, h2, h3⟩ := c
    change k = 0 at h1
    change s = [] at h2
    change inB n 0 9 = true at h3
    subst h1 h2
    have hb := inB_of h3
    obtain ⟨m, rfl⟩ : ∃ m : Nat, n = m := ⟨n.toNat, by omega⟩
    exact Told.chain m (by omega)
  · rename_i c1
    rw [if_neg c1]
    split at h
    · rename_i c
      rw [if_pos c]
      obtain ⟨h1, h2, h3⟩ := c
      change k = 1 at h1
      change n = 0 at h2
      subst h1 h2
      exact Told.say s h3
    · rename_i c2
      rw [if_neg c2]
      split at h
      · rename_i c
        rw [if_pos c]
        obtain ⟨h1, h2, h3⟩ := c
        change k = 3 at h1
        change n = 0 at h2
        subst h1 h2
        exact Told.times s h3
      · rename_i c3
        rw [if_neg c3]
        split at h
        · rename_i c
          rw [if_pos c]
          obtain ⟨h1, h2, h3⟩ := c
          change k = 4 at h1
          change n = 0 at h2
          subst h1 h2
          exact Told.ifs s h3
        · rename_i c4
          rw [if_neg c4]
          split at h
          · rename_i c; rw [if_pos c, c]; exact Told.nots
          · rename_i c5
            rw [if_neg c5]
            split at h
            · rename_i c; rw [if_pos c, c]; exact Told.basic
            · rename_i c6
              rw [if_neg c6]
              split at h
              · rename_i c; rw [if_pos c, c]; exact Told.back
              · exact absurd rfl h
theorem tx_told {a : Dd} {s : List UInt8} (h : Told a s) : txD a = s := by
  cases h with
  | chain k h =>
    unfold txD
    have hb : inB ((k : Nat) : Int) 0 9 = true := inB_t (by omega)
    rw [if_pos ⟨rfl, rfl, hb⟩]
    rfl
  | say t h => unfold txD; rw [if_neg (by simp), if_pos ⟨rfl, rfl, h⟩]
  | times t h => unfold txD; rw [if_neg (by simp), if_neg (by simp), if_pos ⟨rfl, rfl, h⟩]
  | ifs t h => unfold txD; rw [if_neg (by simp), if_neg (by simp), if_neg (by simp), if_pos ⟨rfl, rfl, h⟩]
  | nots => rfl
  | basic => rfl
  | back => rfl
theorem told_pos {a : Dd} {s : List UInt8} (h : Told a s) : s ≠ [] := by
  cases h <;> simp [chainW, sayW, timesW', ifW, notD, basicD, backD]
theorem told_tx {a : Dd} {s : List UInt8} : Told a s ↔ (txD a = s ∧ s ≠ []) :=
  ⟨fun h => ⟨tx_told h, told_pos h⟩, fun h => by have e := told_of (a := a) (by rw [h.1]; exact h.2); rwa [h.1] at e⟩
theorem tx_none {a : Dd} (h : ∀ s, ¬ Told a s) : txD a = [] := by
  by_cases k : txD a = []
  · exact k
  · exact absurd (told_of k) (h _)

/-- Bytes that are neither spaces nor newlines. -/
def noSp (l : List UInt8) : Prop := ∀ c ∈ l, c ≠ 32 ∧ c ≠ 10
theorem txt_noSp : ∀ t : Tr, noSp t.txt
  | .lt k => by cases k <;> (intro c hc; simp [Tr.txt, Lr.byte] at hc; subst hc; decide)
  | .tru b => by cases b <;> (intro c hc; simp [Tr.txt] at hc; subst hc; decide)
  | .neg x => by
    intro c hc
    rw [Tr.txt, List.mem_cons] at hc
    rcases hc with rfl | hc
    · decide
    · exact txt_noSp x c hc
  | .bin g x y => by
    intro c hc
    rw [Tr.txt, List.mem_cons, List.mem_append, List.mem_cons, List.mem_append, List.mem_singleton] at hc
    rcases hc with rfl | hc | rfl | hc | rfl
    · decide
    · exact txt_noSp x c hc
    · cases g <;> decide
    · exact txt_noSp y c hc
    · decide
theorem isF_noSp {l : List UInt8} (h : isF l = true) : noSp l := by
  obtain ⟨t, ht⟩ := isF_of h
  rw [(fOf_some ht).1]
  exact txt_noSp t
theorem isF_pos {l : List UInt8} (h : isF l = true) : l ≠ [] := by
  obtain ⟨t, ht⟩ := isF_of h
  have e := (fOf_some ht).1
  have := txt_pos t
  intro k
  rw [k] at e
  rw [← e] at this
  simp at this
theorem isF_len {l : List UInt8} (h : isF l = true) : l.length ≤ 60 := by
  obtain ⟨t, ht⟩ := isF_of h
  obtain ⟨e, k⟩ := fOf_some ht
  rw [e]; exact k
theorem dig_sp {k : Nat} (h : k ≤ 9) : UInt8.ofNat (48 + k) ≠ 32 ∧ UInt8.ofNat (48 + k) ≠ 10 := by
  have : k = 0 ∨ k = 1 ∨ k = 2 ∨ k = 3 ∨ k = 4 ∨ k = 5 ∨ k = 6 ∨ k = 7 ∨ k = 8 ∨ k = 9 := by omega
  rcases this with rfl | rfl | rfl | rfl | rfl | rfl | rfl | rfl | rfl | rfl <;> decide
theorem dig_inj {j k : Nat} (hj : j ≤ 9) (hk : k ≤ 9) (h : UInt8.ofNat (48 + j) = UInt8.ofNat (48 + k)) : j = k := by
  have e := congrArg UInt8.toNat h
  rw [UInt8.toNat_ofNat_of_lt' (by show 48 + j < 256; omega), UInt8.toNat_ofNat_of_lt' (by show 48 + k < 256; omega)] at e
  omega

theorem told_inj {a b : Dd} {s : List UInt8} (h : Told a s) (k : Told b s) : a = b := by
  generalize hs : s = t at k
  cases h with
  | chain j hj =>
    cases k with
    | chain i hi =>
      have e : UInt8.ofNat (48 + j) = UInt8.ofNat (48 + i) := by simpa [chainW] using hs
      rw [dig_inj hj hi e]
    | _ => simp [chainW, sayW, timesW', ifW, notD, basicD, backD] at hs
  | say u hu =>
    cases k with
    | say v hv => rw [List.append_cancel_left hs]
    | _ => simp [chainW, sayW, timesW', ifW, notD, basicD, backD] at hs
  | times u hu =>
    cases k with
    | times v hv => rw [List.append_cancel_left hs]
    | _ => simp [chainW, sayW, timesW', ifW, notD, basicD, backD] at hs
  | ifs u hu =>
    cases k with
    | ifs v hv => rw [List.append_cancel_left hs]
    | _ => simp [chainW, sayW, timesW', ifW, notD, basicD, backD] at hs
  | nots =>
    cases k with
    | nots => rfl
    | _ => simp [chainW, sayW, timesW', ifW, notD, basicD, backD] at hs
  | basic =>
    cases k with
    | basic => rfl
    | _ => simp [chainW, sayW, timesW', ifW, notD, basicD, backD] at hs
  | back =>
    cases k with
    | back => rfl
    | _ => simp [chainW, sayW, timesW', ifW, notD, basicD, backD] at hs

/-- The last byte of a text of a deed is no space, and no byte is a newline. -/
theorem told_last {a : Dd} {s r : List UInt8} (h : Told a s) : s ≠ r ++ [32] := by
  intro e
  have f : ∀ (p t : List UInt8), isF t = true → p ++ t ≠ r ++ [32] := by
    intro p t ht e
    have hp := isF_pos ht
    have e1 : (p ++ t).getLast? = t.getLast? := by
      rw [List.getLast?_append]
      cases h2 : t.getLast? with
      | none => exact absurd (List.getLast?_eq_none_iff.1 h2) hp
      | some c => rfl
    rw [e] at e1
    have e2 : t.getLast? = some 32 := by rw [← e1]; simp
    exact (isF_noSp ht 32 (List.mem_of_getLast? e2)).1 rfl
  cases h with
  | chain k hk =>
    have e1 := congrArg List.getLast? e
    rw [List.getLast?_append, List.getLast?_append] at e1
    have e2 : UInt8.ofNat (48 + k) = 32 := by simpa using e1
    exact (dig_sp hk).1 e2
  | say t ht => exact f _ _ ht e
  | times t ht => exact f _ _ ht e
  | ifs t ht => exact f _ _ ht e
  | nots => have e1 := congrArg List.getLast? e; simp [notD] at e1
  | basic => have e1 := congrArg List.getLast? e; simp [basicD] at e1
  | back => have e1 := congrArg List.getLast? e; simp [backD] at e1
theorem told_line {a : Dd} {s : List UInt8} (h : Told a s) : ∀ c ∈ s, c ≠ 10 := by
  have f : ∀ (p t : List UInt8), (∀ c ∈ p, c ≠ (10 : UInt8)) → isF t = true → ∀ c ∈ p ++ t, c ≠ 10 := by
    intro p t hp ht c hc
    rw [List.mem_append] at hc
    rcases hc with hc | hc
    · exact hp c hc
    · exact (isF_noSp ht c hc).2
  cases h with
  | chain k hk =>
    intro c hc
    rw [List.mem_append, List.mem_singleton] at hc
    rcases hc with hc | rfl
    · revert c; decide
    · exact (dig_sp hk).2
  | say t ht => exact f _ _ (by decide) ht
  | times t ht => exact f _ _ (by decide) ht
  | ifs t ht => exact f _ _ (by decide) ht
  | nots => decide
  | basic => decide
  | back => decide
theorem told_len {a : Dd} {s : List UInt8} (h : Told a s) : s.length ≤ 66 := by
  have f : ∀ (p t : List UInt8), p.length ≤ 6 → isF t = true → (p ++ t).length ≤ 66 := by
    intro p t hp ht
    have := isF_len ht
    rw [List.length_append]; omega
  cases h with
  | chain k hk => simp [chainW]
  | say t ht => exact f _ _ (by decide) ht
  | times t ht => exact f _ _ (by decide) ht
  | ifs t ht => exact f _ _ (by decide) ht
  | nots => decide
  | basic => decide
  | back => decide

/-- What stands behind a beginning. -/
def behind (p s : List UInt8) : Option (List UInt8) := if p.isPrefixOf s then some (s.drop p.length) else none
theorem behind_of {p s r : List UInt8} (h : behind p s = some r) : s = p ++ r := by
  unfold behind at h
  split at h
  · rename_i hp
    cases h
    obtain ⟨q, rfl⟩ := List.isPrefixOf_iff_prefix.1 hp
    rw [List.drop_left]
  · cases h
theorem behind_mk (p r : List UInt8) : behind p (p ++ r) = some r := by
  unfold behind
  rw [if_pos (List.isPrefixOf_iff_prefix.2 (List.prefix_append p r)), List.drop_left]

/-- The deed of a text. -/
def rd3 (s : List UInt8) : Option Dd :=
  match behind ifW s with
  | some t => if isF t = true then some (4, 0, t) else none
  | none => none
def rd2 (s : List UInt8) : Option Dd :=
  match behind timesW' s with
  | some t => if isF t = true then some (3, 0, t) else none
  | none => rd3 s
def rd1 (s : List UInt8) : Option Dd :=
  match behind sayW s with
  | some t => if isF t = true then some (1, 0, t) else none
  | none => rd2 s
def rd0 (s : List UInt8) : Option Dd :=
  match behind chainW s with
  | some t => if t.length = 1 ∧ inB (((t.getD 0 0).toNat : Int) - 48) 0 9 = true then some (0, ((t.getD 0 0).toNat : Int) - 48, []) else none
  | none => rd1 s
def rdD (s : List UInt8) : Option Dd :=
  if s = notD then some (2, 0, [])
  else if s = basicD then some (5, 0, [])
  else if s = backD then some (6, 0, [])
  else rd0 s
theorem rd_told {s : List UInt8} {a : Dd} (h : rdD s = some a) : Told a s := by
  unfold rdD at h
  split at h
  · rename_i e; cases h; rw [e]; exact Told.nots
  split at h
  · rename_i e; cases h; rw [e]; exact Told.basic
  split at h
  · rename_i e; cases h; rw [e]; exact Told.back
  unfold rd0 at h
  cases e0 : behind chainW s with
  | some t =>
    rw [e0] at h
    simp only [] at h
    split at h
    · rename_i hc
      cases h
      obtain ⟨hl, hb⟩ := hc
      obtain ⟨c, rfl⟩ : ∃ c, t = [c] := List.length_eq_one_iff.1 hl
      have hb := inB_of hb
      change 0 ≤ (c.toNat : Int) - 48 ∧ (c.toNat : Int) - 48 ≤ 9 at hb
      rw [behind_of e0]
      have := Told.chain (c.toNat - 48) (by omega)
      rw [show 48 + (c.toNat - 48) = c.toNat by omega, UInt8.ofNat_toNat, show ((c.toNat - 48 : Nat) : Int) = (c.toNat : Int) - 48 by omega] at this
      exact this
    · cases h
  | none =>
  rw [e0] at h
  change rd1 s = some a at h
  unfold rd1 at h
  cases e1 : behind sayW s with
  | some t =>
    rw [e1] at h
    simp only [] at h
    split at h
    · rename_i ht; cases h; rw [behind_of e1]; exact Told.say t ht
    · cases h
  | none =>
  rw [e1] at h
  change rd2 s = some a at h
  unfold rd2 at h
  cases e2 : behind timesW' s with
  | some t =>
    rw [e2] at h
    simp only [] at h
    split at h
    · rename_i ht; cases h; rw [behind_of e2]; exact Told.times t ht
    · cases h
  | none =>
  rw [e2] at h
  change rd3 s = some a at h
  unfold rd3 at h
  cases e3 : behind ifW s with
  | some t =>
    rw [e3] at h
    simp only [] at h
    split at h
    · rename_i ht; cases h; rw [behind_of e3]; exact Told.ifs t ht
    · cases h
  | none => rw [e3] at h; cases h
theorem told_rd {s : List UInt8} {a : Dd} (h : Told a s) : rdD s = some a := by
  cases h with
  | chain k hk =>
    have e : (UInt8.ofNat (48 + k)).toNat = 48 + k := UInt8.toNat_ofNat_of_lt' (by show 48 + k < 256; omega)
    have e' : (((([UInt8.ofNat (48 + k)] : List UInt8).getD 0 0).toNat : Int) - 48) = (k : Int) := by
      show ((UInt8.ofNat (48 + k)).toNat : Int) - 48 = (k : Int)
      rw [e]; omega
    unfold rdD
    rw [if_neg (by simp [chainW, notD]), if_neg (by simp [chainW, basicD]), if_neg (by simp [chainW, backD])]
    unfold rd0
    rw [behind_mk]
    simp only [e']
    exact if_pos ⟨rfl, inB_t (by omega)⟩
  | say t ht =>
    unfold rdD
    rw [if_neg (by simp [sayW, notD]), if_neg (by simp [sayW, basicD]), if_neg (by simp [sayW, backD])]
    have e : behind chainW (sayW ++ t) = none := by simp [behind, chainW, sayW]
    unfold rd0 rd1
    rw [e, behind_mk]
    exact if_pos ht
  | times t ht =>
    unfold rdD
    rw [if_neg (by simp [timesW', notD]), if_neg (by simp [timesW', basicD]), if_neg (by simp [timesW', backD])]
    have e : behind chainW (timesW' ++ t) = none := by simp [behind, chainW, timesW']
    have e2 : behind sayW (timesW' ++ t) = none := by simp [behind, sayW, timesW']
    unfold rd0 rd1 rd2
    rw [e, e2, behind_mk]
    exact if_pos ht
  | ifs t ht =>
    unfold rdD
    rw [if_neg (by simp [ifW, notD]), if_neg (by simp [ifW, basicD]), if_neg (by simp [ifW, backD])]
    have e : behind chainW (ifW ++ t) = none := by simp [behind, chainW, ifW]
    have e2 : behind sayW (ifW ++ t) = none := by simp [behind, sayW, ifW]
    have e3 : behind timesW' (ifW ++ t) = none := by simp [behind, timesW', ifW]
    unfold rd0 rd1 rd2 rd3
    rw [e, e2, e3, behind_mk]
    exact if_pos ht
  | nots => rfl
  | basic => rfl
  | back => rfl
theorem rd_iff {s : List UInt8} {a : Dd} : rdD s = some a ↔ Told a s := ⟨rd_told, told_rd⟩
theorem rd_tx {a : Dd} (h : txD a ≠ []) : rdD (txD a) = some a := told_rd (told_of h)
theorem tx_rd {s : List UInt8} {a : Dd} (h : rdD s = some a) : txD a = s := tx_told (rd_told h)
theorem rdD_none {s : List UInt8} (h : ∀ a, ¬ Told a s) : rdD s = none := by
  cases e : rdD s with
  | none => rfl
  | some a => exact absurd (rd_told e) (h a)
theorem rd_space (s : List UInt8) : rdD (s ++ [32]) = none := rdD_none fun _ h => told_last h rfl
theorem rd_nil : rdD [] = none := rfl

/-! Journals. -/
def jB (l : List Dd) : Bool := l.all fun a => !(txD a).isEmpty
def jL : List Dd → List UInt8
  | [] => []
  | a :: l => txD a ++ 10 :: jL l
def jT (l : List Dd) : List UInt8 := if jB l = true then jL l else []
theorem jB_cons {a : Dd} {l : List Dd} : jB (a :: l) = true ↔ (txD a ≠ [] ∧ jB l = true) := by
  unfold jB
  rw [List.all_cons, Bool.and_eq_true]
  cases txD a <;> simp
theorem jB_of {l : List Dd} (h : jB l = true) {a : Dd} (ha : a ∈ l) : txD a ≠ [] := by
  unfold jB at h
  have := List.all_eq_true.1 h a ha
  intro k
  rw [k] at this
  simp at this
theorem jB_no {l : List Dd} {a : Dd} (ha : a ∈ l) (h : txD a = []) : jB l = false := by
  cases e : jB l with
  | false => rfl
  | true => exact absurd h (jB_of e ha)
theorem jL_app : ∀ (l m : List Dd), jL (l ++ m) = jL l ++ jL m
  | [], m => rfl
  | a :: l, m => by
    show txD a ++ 10 :: jL (l ++ m) = (txD a ++ 10 :: jL l) ++ jL m
    rw [jL_app l m, List.append_assoc]; rfl
theorem jL_snoc (l : List Dd) (a : Dd) : jL (l ++ [a]) = jL l ++ txD a ++ [10] := by
  rw [jL_app]; show jL l ++ (txD a ++ [10]) = _; rw [List.append_assoc]
theorem jL_pos {l : List Dd} (h : l ≠ []) : jL l ≠ [] := by
  cases l with
  | nil => exact absurd rfl h
  | cons a l => show txD a ++ 10 :: jL l ≠ []; simp
theorem jT_of {l : List Dd} (h : jT l ≠ []) : jB l = true ∧ jT l = jL l := by
  unfold jT at *
  split at h
  · rename_i k; exact ⟨k, if_pos k⟩
  · exact absurd rfl h

def goJ : List UInt8 → List UInt8 → List Dd × Nat
  | _, [] => ([], 0)
  | cur, c :: r =>
    if c = 10 then
      match rdD cur with
      | none => ([], 0)
      | some a => (a :: (goJ [] r).1, cur.length + 1 + (goJ [] r).2)
    else goJ (cur ++ [c]) r
def rdJ (s : List UInt8) : List Dd × Nat := goJ [] s
theorem goJ_nil (cur : List UInt8) : goJ cur [] = ([], 0) := rfl
theorem goJ_no {cur : List UInt8} (r : List UInt8) (h : rdD cur = none) : goJ cur (10 :: r) = ([], 0) := by
  show (if (10 : UInt8) = 10 then (match rdD cur with | none => ([], 0) | some a => (a :: (goJ [] r).1, cur.length + 1 + (goJ [] r).2)) else goJ (cur ++ [10]) r) = _
  rw [if_pos rfl, h]
theorem goJ_yes {cur : List UInt8} {a : Dd} (r : List UInt8) (h : rdD cur = some a) : goJ cur (10 :: r) = (a :: (goJ [] r).1, cur.length + 1 + (goJ [] r).2) := by
  show (if (10 : UInt8) = 10 then (match rdD cur with | none => ([], 0) | some a => (a :: (goJ [] r).1, cur.length + 1 + (goJ [] r).2)) else goJ (cur ++ [10]) r) = _
  rw [if_pos rfl, h]
theorem goJ_more (cur : List UInt8) {c : UInt8} (r : List UInt8) (h : c ≠ 10) : goJ cur (c :: r) = goJ (cur ++ [c]) r := by
  show (if c = 10 then (match rdD cur with | none => ([], 0) | some a => (a :: (goJ [] r).1, cur.length + 1 + (goJ [] r).2)) else goJ (cur ++ [c]) r) = _
  rw [if_neg h]
theorem goJ_line : ∀ (t cur r : List UInt8), (∀ c ∈ t, c ≠ (10 : UInt8)) → goJ cur (t ++ r) = goJ (cur ++ t) r
  | [], cur, r, _ => by rw [List.append_nil]; rfl
  | c :: t, cur, r, h => by
    rw [List.cons_append, goJ_more _ _ (h c (by simp)), goJ_line t _ r fun d hd => h d (by simp [hd]), List.append_assoc]; rfl
theorem j_read : ∀ {l : List Dd}, jB l = true → rdJ (jL l) = (l, (jL l).length)
  | [], _ => rfl
  | a :: l, h => by
    obtain ⟨ha, hl⟩ := jB_cons.1 h
    show goJ [] (txD a ++ 10 :: jL l) = _
    rw [goJ_line _ _ _ (told_line (told_of ha)), List.nil_append, goJ_yes _ (rd_tx ha)]
    have e := j_read hl
    unfold rdJ at e
    rw [e]
    show (a :: l, _) = (a :: l, (txD a ++ 10 :: jL l).length)
    rw [List.length_append, List.length_cons]
    simp; omega
/-- What was read is the text of what was read. -/
theorem goJ_text : ∀ (s cur : List UInt8) (l : List Dd) (n : Nat), goJ cur s = (l, n) → jB l = true ∧ jL l = (cur ++ s).take n ∧ n ≤ (cur ++ s).length
  | [], cur, l, n, h => by cases h; exact ⟨rfl, rfl, by simp⟩
  | c :: r, cur, l, n, h => by
    by_cases hc : c = 10
    · subst hc
      cases e : rdD cur with
      | none => rw [goJ_no _ e] at h; cases h; exact ⟨rfl, rfl, by simp⟩
      | some a =>
        rw [goJ_yes _ e] at h
        cases h
        obtain ⟨h1, h2, h3⟩ := goJ_text r [] _ _ (Prod.eta (goJ [] r)).symm
        rw [List.nil_append] at h2 h3
        have ht := rd_told e
        refine ⟨jB_cons.2 ⟨by rw [tx_told ht]; exact told_pos ht, h1⟩, ?_, ?_⟩
        · show txD a ++ 10 :: jL (goJ [] r).1 = _
          rw [tx_told ht, h2, show cur.length + 1 + (goJ [] r).2 = cur.length + ((goJ [] r).2 + 1) by omega, List.take_append, List.take_of_length_le (l := cur) (by omega), Nat.add_sub_cancel_left, List.take_succ_cons]
        · rw [List.length_append, List.length_cons]; omega
    · rw [goJ_more _ _ hc] at h
      have := goJ_text r (cur ++ [c]) l n h
      rw [List.append_assoc] at this
      exact this
theorem j_text (s : List UInt8) : jB (rdJ s).1 = true ∧ jL (rdJ s).1 = s.take (rdJ s).2 ∧ (rdJ s).2 ≤ s.length := goJ_text s [] _ _ (Prod.eta (goJ [] s)).symm
/-- Of any beginning the first ones are read. -/
theorem goJ_pre : ∀ (s cur : List UInt8) (k : Nat), ((goJ cur (s.take k)).1 <+: (goJ cur s).1)
  | [], cur, k => by rw [List.take_nil]; exact List.prefix_refl _
  | c :: r, cur, 0 => by rw [List.take_zero]; exact List.nil_prefix
  | c :: r, cur, k + 1 => by
    rw [List.take_succ_cons]
    by_cases hc : c = 10
    · subst hc
      cases e : rdD cur with
      | none => rw [goJ_no _ e]; exact List.nil_prefix
      | some a =>
        rw [goJ_yes _ e, goJ_yes _ e]
        show a :: (goJ [] (r.take k)).1 <+: a :: (goJ [] r).1
        exact List.cons_prefix_cons.2 ⟨rfl, goJ_pre r [] k⟩
    · rw [goJ_more _ _ hc, goJ_more _ _ hc]
      exact goJ_pre r (cur ++ [c]) k
theorem j_pre (s : List UInt8) (k : Nat) : (rdJ (s.take k)).1 = (rdJ s).1.take (rdJ (s.take k)).1.length ∧ (rdJ (s.take k)).1.length ≤ (rdJ s).1.length ∧ (rdJ (s.take k)).2 ≤ k := by
  have h := goJ_pre s [] k
  refine ⟨List.prefix_iff_eq_take.1 h, h.length_le, ?_⟩
  have := (j_text (s.take k)).2.2
  rw [List.length_take] at this
  omega

/-- The texts of the deeds that were read, said as lines, lead where the deeds lead: each is read as its deed. -/
theorem j_line {s : List UInt8} {a : Dd} (h : a ∈ (rdJ s).1) : rdD (txD a) = some a := rd_tx (jB_of (j_text s).1 h)

end Go.Proofs.YtlnffpofbfigaaaGreatDoor
