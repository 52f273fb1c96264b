/-
  What chapter 7 says, as plain lists of texts: premises, what follows of them, how many values make them true, powers, what is deduced. No program is named.
-/
import Derived.Test.YtlnffpofbfigaaaGreatDoorFoll
namespace Go.Proofs.YtlnffpofbfigaaaGreatDoor

def fsOf : List (List UInt8) → Option (List Tr)
  | [] => some []
  | l :: ls => match fOf l, fsOf ls with
    | some t, some ts => some (t :: ts)
    | _, _ => none
theorem fsOf_cons {l : List UInt8} {ls : List (List UInt8)} {t : Tr} {ts : List Tr} (h : fOf l = some t) (k : fsOf ls = some ts) : fsOf (l :: ls) = some (t :: ts) := by unfold fsOf; rw [h, k]
theorem fsOf_bad {l : List UInt8} {ls : List (List UInt8)} (h : fOf l = none) : fsOf (l :: ls) = none := by unfold fsOf; rw [h]
theorem fsOf_bad2 {l : List UInt8} {ls : List (List UInt8)} (h : fsOf ls = none) : fsOf (l :: ls) = none := by
  unfold fsOf; rw [h]
  cases fOf l <;> rfl
theorem fsOf_parts {l : List UInt8} {ls : List (List UInt8)} {ts : List Tr} (h : fsOf (l :: ls) = some ts) : ∃ t us, fOf l = some t ∧ fsOf ls = some us ∧ ts = t :: us := by
  unfold fsOf at h
  cases h1 : fOf l with
  | none => rw [h1] at h; cases h
  | some t =>
    cases h2 : fsOf ls with
    | none => rw [h1, h2] at h; cases h
    | some us => rw [h1, h2] at h; cases h; exact ⟨t, us, rfl, rfl, rfl⟩
theorem fsOf_len : ∀ {ls : List (List UInt8)} {ts : List Tr}, fsOf ls = some ts → ts.length = ls.length
  | [], ts, h => by cases h; rfl
  | l :: ls, ts, h => by
    obtain ⟨t, us, _, h2, rfl⟩ := fsOf_parts h
    simp [fsOf_len h2]
theorem fsOf_at : ∀ {ls : List (List UInt8)} {ts : List Tr}, fsOf ls = some ts → ∀ i, i < ls.length → ∃ t, ts[i]? = some t ∧ fOf (ls.getD i []) = some t
  | [], _, _, i, hi => by simp at hi
  | l :: ls, ts, h, i, hi => by
    obtain ⟨t, us, h1, h2, rfl⟩ := fsOf_parts h
    cases i with
    | zero => exact ⟨t, rfl, h1⟩
    | succ i =>
      obtain ⟨u, hu, hf⟩ := fsOf_at h2 i (by simpa using hi)
      exact ⟨u, by simpa using hu, by simpa using hf⟩
theorem fsOf_none : ∀ {ls : List (List UInt8)}, fsOf ls = none → ∃ i, i < ls.length ∧ fOf (ls.getD i []) = none ∧ ∀ j, j < i → ∃ t, fOf (ls.getD j []) = some t
  | [], h => by cases h
  | l :: ls, h => by
    cases h1 : fOf l with
    | none => exact ⟨0, by simp, by simpa using h1, fun j hj => absurd hj (by omega)⟩
    | some t =>
      have h2 : fsOf ls = none := by
        cases h2 : fsOf ls with
        | none => rfl
        | some us => rw [fsOf_cons h1 h2] at h; cases h
      obtain ⟨i, hi, hn, hj⟩ := fsOf_none h2
      refine ⟨i + 1, by simp; omega, by simpa using hn, fun j hj' => ?_⟩
      cases j with
      | zero => exact ⟨t, by simpa using h1⟩
      | succ j => simpa using hj j (by omega)
theorem fsOf_of : ∀ {ls : List (List UInt8)}, (∀ i, i < ls.length → isF (ls.getD i []) = true) → ∃ ts, fsOf ls = some ts
  | [], _ => ⟨[], rfl⟩
  | l :: ls, h => by
    obtain ⟨t, ht⟩ := isF_of (h 0 (by simp))
    obtain ⟨ts, hts⟩ := fsOf_of (ls := ls) fun i hi => by simpa using h (i + 1) (by simp; omega)
    exact ⟨t :: ts, fsOf_cons (by simpa using ht) hts⟩
theorem fsOf_app {t : Tr} {m : List UInt8} (h : fOf m = some t) : ∀ {ls : List (List UInt8)} {ts : List Tr}, fsOf ls = some ts → fsOf (ls ++ [m]) = some (ts ++ [t])
  | [], ts, k => by cases k; exact fsOf_cons h rfl
  | l :: ls, ts, k => by
    obtain ⟨u, us, h1, h2, rfl⟩ := fsOf_parts k
    exact fsOf_cons h1 (fsOf_app h h2)

def prOf (ls : List (List UInt8)) : Option (List Tr) := if ls.length ≤ 3 then fsOf ls else none
theorem prOf_s {ls : List (List UInt8)} (h : ls.length ≤ 3) : prOf ls = fsOf ls := if_pos h
theorem prOf_l {ls : List (List UInt8)} (h : ¬ ls.length ≤ 3) : prOf ls = none := if_neg h
theorem prOf_of {ls : List (List UInt8)} {ts : List Tr} (h : prOf ls = some ts) : ls.length ≤ 3 ∧ fsOf ls = some ts := by
  unfold prOf at h
  split at h
  · exact ⟨by assumption, h⟩
  · cases h
theorem prOf_no {ls : List (List UInt8)} (h : prOf ls = none) : 3 < ls.length ∨ (ls.length ≤ 3 ∧ fsOf ls = none) := by
  by_cases k : ls.length ≤ 3
  · rw [prOf_s k] at h; exact .inr ⟨k, h⟩
  · exact .inl (by omega)
theorem prOf_tail {l : List UInt8} {ls : List (List UInt8)} {ts : List Tr} (h : prOf (l :: ls) = some ts) : ∃ t us, fOf l = some t ∧ prOf ls = some us ∧ ts = t :: us := by
  obtain ⟨h1, h2⟩ := prOf_of h
  obtain ⟨t, us, h3, h4, h5⟩ := fsOf_parts h2
  exact ⟨t, us, h3, by rw [prOf_s (by simp at h1; omega)]; exact h4, h5⟩

def premB (ls : List (List UInt8)) : Bool := (prOf ls).isSome
theorem premB_t {ls : List (List UInt8)} {ts : List Tr} (h : prOf ls = some ts) : premB ls = true := by unfold premB; rw [h]; rfl
theorem premB_f {ls : List (List UInt8)} (h : prOf ls = none) : premB ls = false := by unfold premB; rw [h]; rfl
theorem premB_of {ls : List (List UInt8)} (h : premB ls = true) : ∃ ts, prOf ls = some ts := by
  unfold premB at h
  cases k : prOf ls with
  | none => rw [k] at h; cases h
  | some ts => exact ⟨ts, rfl⟩
def folI (n : Int) (ls : List (List UInt8)) (l : List UInt8) : Bool :=
  match prOf ls, fOf l with
  | some ts, some t => inB n 1 6 && folK n.toNat ts t
  | _, _ => false
theorem folI_p {n : Int} {ls : List (List UInt8)} {l : List UInt8} (h : prOf ls = none) : folI n ls l = false := by unfold folI; rw [h]
theorem folI_n {n : Int} {ls : List (List UInt8)} {l : List UInt8} (h : fOf l = none) : folI n ls l = false := by unfold folI; rw [h]; cases prOf ls <;> rfl
theorem folI_o {n : Int} {ls : List (List UInt8)} {l : List UInt8} (h : inB n 1 6 = false) : folI n ls l = false := by unfold folI; rw [h]; cases prOf ls <;> cases fOf l <;> rfl
theorem folI_t {n : Nat} {ls : List (List UInt8)} {l : List UInt8} {ts : List Tr} {t : Tr} (h : prOf ls = some ts) (k : fOf l = some t) (hn : inB n 1 6 = true) : folI n ls l = folK n ts t := by
  unfold folI; rw [h, k]; simp only [hn, Bool.true_and, Int.toNat_natCast]
def cntI (n : Int) (ls : List (List UInt8)) : Int :=
  match prOf ls with
  | some ts => if inB n 1 6 = true then (cntK n.toNat ts (cub n.toNat) : Int) else -1
  | none => -1
theorem cntI_p {n : Int} {ls : List (List UInt8)} (h : prOf ls = none) : cntI n ls = -1 := by unfold cntI; rw [h]
theorem cntI_o {n : Int} {ls : List (List UInt8)} (h : inB n 1 6 = false) : cntI n ls = -1 := by unfold cntI; rw [h]; cases prOf ls <;> rfl
theorem cntI_t {n : Nat} {ls : List (List UInt8)} {ts : List Tr} (h : prOf ls = some ts) (hn : inB n 1 6 = true) : cntI n ls = (cntK n ts (cub n) : Int) := by
  unfold cntI; rw [h]; simp only [hn, if_true, Int.toNat_natCast]

/-- A formula taken together with itself k times: k from 1 to 9, at most 60 bytes. -/
def powI (l : List UInt8) (k : Int) : Option Tr :=
  match fOf l with
  | some t => if inB k 1 9 = true ∧ (powN t (k - 1).toNat).txt.length ≤ 60 then some (powN t (k - 1).toNat) else none
  | none => none
theorem powI_n {l : List UInt8} {k : Int} (h : fOf l = none) : powI l k = none := by unfold powI; rw [h]
theorem powI_o {l : List UInt8} {k : Int} (h : inB k 1 9 = false) : powI l k = none := by unfold powI; rw [h]; cases fOf l <;> simp
theorem powI_t {l : List UInt8} {j : Nat} {t : Tr} (h : fOf l = some t) (hk : inB ((j : Int) + 1) 1 9 = true) (hl : (powN t j).txt.length ≤ 60) : powI l ((j : Int) + 1) = some (powN t j) := by
  unfold powI; rw [h]
  have e : ((j : Int) + 1 - 1).toNat = j := by omega
  simp only [e]
  exact if_pos ⟨hk, hl⟩
theorem powI_l {l : List UInt8} {j : Nat} {t : Tr} (h : fOf l = some t) (hl : ¬ (powN t j).txt.length ≤ 60) : powI l ((j : Int) + 1) = none := by
  unfold powI; rw [h]
  have e : ((j : Int) + 1 - 1).toNat = j := by omega
  simp only [e]
  exact if_neg fun h => hl h.2
theorem powI_of {l : List UInt8} {k : Int} {p : Tr} (h : powI l k = some p) : ∃ (j : Nat) (t : Tr), k = (j : Int) + 1 ∧ j ≤ 8 ∧ fOf l = some t ∧ p = powN t j ∧ p.txt.length ≤ 60 := by
  unfold powI at h
  cases ho : fOf l with
  | none => rw [ho] at h; cases h
  | some t =>
    rw [ho] at h
    simp only [] at h
    split at h
    · rename_i hc
      have hb := inB_of hc.1
      cases h
      exact ⟨(k - 1).toNat, t, by omega, by omega, rfl, rfl, hc.2⟩
    · cases h
/-- The formula that tells that one follows of another. -/
def dedI (n : Int) (l m : List UInt8) : Option Tr :=
  match powI l n, fOf m with
  | some p, some t => if inB n 1 6 = true ∧ (Tr.bin .fol p t).txt.length ≤ 60 then some (.bin .fol p t) else none
  | _, _ => none
theorem dedI_p {n : Int} {l m : List UInt8} (h : powI l n = none) : dedI n l m = none := by unfold dedI; rw [h]
theorem dedI_n {n : Int} {l m : List UInt8} (h : fOf m = none) : dedI n l m = none := by unfold dedI; rw [h]; cases powI l n <;> rfl
theorem dedI_o {n : Int} {l m : List UInt8} (h : inB n 1 6 = false) : dedI n l m = none := by unfold dedI; rw [h]; cases powI l n <;> cases fOf m <;> simp
theorem dedI_t {n : Int} {l m : List UInt8} {p t : Tr} (h : powI l n = some p) (k : fOf m = some t) (hn : inB n 1 6 = true) (hl : (Tr.bin .fol p t).txt.length ≤ 60) : dedI n l m = some (.bin .fol p t) := by
  unfold dedI; rw [h, k]; exact if_pos ⟨hn, hl⟩
theorem dedI_l {n : Int} {l m : List UInt8} {p t : Tr} (h : powI l n = some p) (k : fOf m = some t) (hl : ¬ (Tr.bin .fol p t).txt.length ≤ 60) : dedI n l m = none := by
  unfold dedI; rw [h, k]; exact if_neg fun h => hl h.2
theorem dedI_of {n : Int} {l m : List UInt8} {d : Tr} (h : dedI n l m = some d) : ∃ (N : Nat) (s t : Tr), n = N ∧ (1 ≤ N ∧ N ≤ 6) ∧ fOf l = some s ∧ fOf m = some t ∧ d = dedN N s t ∧ d.txt.length ≤ 60 := by
  unfold dedI at h
  cases hp : powI l n with
  | none => rw [hp] at h; cases h
  | some p =>
    cases hm : fOf m with
    | none => rw [hp, hm] at h; cases h
    | some t =>
      rw [hp, hm] at h
      simp only [] at h
      split at h
      · rename_i hc
        have hb := inB_of hc.1
        obtain ⟨j, s, rfl, hj, hs, rfl, _⟩ := powI_of hp
        cases h
        refine ⟨j + 1, s, t, by omega, by omega, hs, rfl, ?_, hc.2⟩
        unfold dedN
        rw [show j + 1 - 1 = j from rfl]
      · cases h

/-- Behind a formula and a sign, in brackets, stands a formula just where the whole is one. -/
theorem isF_fol {p : Tr} {m : List UInt8} (hp : p.txt.length ≤ 60) : isF (40 :: (p.txt ++ 62 :: (m ++ [41]))) = match fOf m with
    | some t => decide ((Tr.bin .fol p t).txt.length ≤ 60)
    | none => false := by
  cases hm : fOf m with
  | some t =>
    obtain ⟨rfl, _⟩ := fOf_some hm
    show isF (Tr.bin .fol p t).txt = decide _
    by_cases hl : (Tr.bin .fol p t).txt.length ≤ 60
    · rw [isF_t (fOf_txt hl), decide_eq_true hl]
    · rw [isF_f (fOf_long (by omega)), decide_eq_false hl]
  | none =>
    cases h : isF (40 :: (p.txt ++ 62 :: (m ++ [41])))
    · rfl
    · obtain ⟨d, hd⟩ := isF_of h
      exfalso
      have hlen : (40 :: (p.txt ++ 62 :: (m ++ [41]))).length ≤ 60 := by
        by_cases k : (40 :: (p.txt ++ 62 :: (m ++ [41]))).length ≤ 60
        · exact k
        · rw [fOf_long (by omega)] at hd; cases hd
      have hml : m.length ≤ 60 := by simp at hlen; omega
      rw [fOf_short hml] at hm
      obtain ⟨e, _⟩ := fOf_some hd
      cases d with
      | lt k => simp [Tr.txt] at e
      | tru b => simp [Tr.txt] at e
      | neg x => simp [Tr.txt] at e
      | bin g x y =>
        simp only [Tr.txt, List.cons.injEq, true_and] at e
        have h1 := prs_full p (p.txt.length + x.txt.length) (62 :: (m ++ [41])) (by omega)
        have h2 := prs_full x (p.txt.length + x.txt.length) (g.byte :: (y.txt ++ [41])) (by omega)
        rw [e] at h1
        rw [h1] at h2
        simp only [Option.some.injEq, Prod.mk.injEq, List.cons.injEq] at h2
        have h3 : m = y.txt := by have := h2.2.2; exact List.append_cancel_right this
        rw [h3, par_txt] at hm
        cases hm

end Go.Proofs.YtlnffpofbfigaaaGreatDoor
