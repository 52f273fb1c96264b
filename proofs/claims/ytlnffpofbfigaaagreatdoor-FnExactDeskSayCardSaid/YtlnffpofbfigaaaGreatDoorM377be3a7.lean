/-
  Joined out of the texts SignMap, SignI, Foll, Prem: what each holds is told at its head.
-/
import Derived.Test.YtlnffpofbfigaaaGreatDoorM2359aa93
import Derived.Maps.Own
import Derived.Maps.OwnSet
import Derived.Maps.Views
import Derived.MapViews
import Derived.Lib.SmallJoins
import Derived.ProofKit

/-
  The signs of impl: the five function literals, the map that holds them by their names, and what is found in it. No condition.
-/
namespace Go.Proofs.YtlnffpofbfigaaaGreatDoor
open Go.RowKit Go.Maps Go.Joins

/-- An element as it is: function values are kept in the datum themselves. -/
def anyElem (v : Value) : Option (DataW Value × List MemPlace) := some (.held v, [])
def fnV (k : FuncId) : Value := .func (.func k) #[] #[]
def signK (c : UInt8) : Lit := .string [c]
theorem keyedS : Keyed Tryz.prog 9 := string_keyed Tryz.underlying9
theorem signK_of (c : UInt8) : keyOf Tryz.prog 9 (.string ⟨#[c]⟩) = some (signK c) := WideMaps.keyOf_string_mk Tryz.underlying9 (by show (1 : Nat) ≤ maxLen; unfold maxLen; omega)
set_option maxRecDepth 100000 in
theorem zeroSign (w : World) : (zeroValue 203).run Tryz.prog w = .ok .nilFunc w := rfl

/-- A map literal's entry, at the operation, for a map that the call owns. -/
theorem insert_own {H : Type} {P : Program} (w : World) {ops : Array Oper} {rest : List Oper} {o : Oper} {a : Act} {Q : Exit → Act → World → Prop}
    (hg : o.guard = none) (m x v : Operand) (t : TypeId) (hop : o.op = Op.insert t m x v)
    (k e : TypeId) (K : Keyed P k) (ht : P.underlying t = some (.map k e)) (R : Value → Option (DataW H × List MemPlace)) (b n : Nat) (D : DataW H)
    (hm : a.eval m = .map (some b)) (hown : w.ownsMap P k R b n D) (hn : n < maxLen) (key val : Value) (kl : Lit) (hx : a.eval x = key) (hv : a.eval v = val) (hkey : keyOf P k key = some kl)
    (d : DataW H) (ps : List MemPlace) (hval : R val = some (d, ps))
    (hK : ∀ w', w'.ownsMap P k R b (n + 1) (D.put kl d) → w.grownBy w' (some b) → wpList P ops Q rest (a.put o.dst undef) w') :
    wpList P ops Q (o :: rest) a w := by
  refine wpList_plain hg fun K' hK' => ?_
  obtain ⟨w', hrun, r1, r2⟩ := hown.store K ht hn hkey hval
  unfold Oper.wp
  simp [execOp, hop, hm, hx, hv, hrun, Result.andThen]
  exact hK' _ _ (hK w' r1 r2.grown)

/-- What is found by name in a map that the call owns. -/
theorem look_own {P : Program} {w : World} {t k e : TypeId} {b n : Nat} {D : DataW Value} (h : w.ownsMap P k anyElem b n D) (K : Keyed P k) (ht : P.underlying t = some (.map k e)) {z : Value} (hz : (zeroValue e).run P w = .ok z w)
    {key : Value} {kl : Lit} (hkey : keyOf P k key = some kl) {v : Value} (hv : D.atKey kl (.held z) = .held v) (hh : Maps.has D kl = true) :
    (Instr.lookup t (.map (some b)) key true).run P w = .ok (.tuple #[v, .bool true]) w := by
  obtain ⟨u, ps, hrun, hu⟩ := h.look_ok K ht hz (zd := .held z) (zp := []) rfl hkey
  rw [hv] at hu
  rw [hh] at hrun
  simp [anyElem] at hu
  rw [hrun, hu.1]

def signsD : DataW Value := ((((((DataW.map [] : DataW Value).put (signK 62) (.held (fnV 170))).put (signK 43) (.held (fnV 171))).put (signK 42) (.held (fnV 172))).put (signK 38) (.held (fnV 173))).put (signK 124) (.held (fnV 174)))

theorem signs_fol : signsD.atKey (signK 62) (.held .nilFunc) = .held (fnV 170) ∧ Maps.has signsD (signK 62) = true := ⟨rfl, rfl⟩
theorem signs_plus : signsD.atKey (signK 43) (.held .nilFunc) = .held (fnV 171) ∧ Maps.has signsD (signK 43) = true := ⟨rfl, rfl⟩
theorem signs_times : signsD.atKey (signK 42) (.held .nilFunc) = .held (fnV 172) ∧ Maps.has signsD (signK 42) = true := ⟨rfl, rfl⟩
theorem signs_less : signsD.atKey (signK 38) (.held .nilFunc) = .held (fnV 173) ∧ Maps.has signsD (signK 38) = true := ⟨rfl, rfl⟩
theorem signs_great : signsD.atKey (signK 124) (.held .nilFunc) = .held (fnV 174) ∧ Maps.has signsD (signK 124) = true := ⟨rfl, rfl⟩

theorem fol_lit (n a b : Int) (h : twoB n a b = true) (w : World) :
    Calls Tryz.prog 170 #[.int .i64 n, .int .i64 a, .int .i64 b] w fun e w' => e = .returned (.int .i64 (folW n a b)) ∧ w = w' := by
  obtain ⟨_, _, k1, k2, k3, k4, k5, k6⟩ := twoB_of h
  by_cases hc : n - a + b ≤ n
  · rw [folW_t h hc]
    go_enter Tryz.func170, Tryz.ntmps170
    go_wp2_with fail
    all_goals
      go_ret
      exact ⟨by first | rfl | (refine congrArg (fun z : Int => Ending.returned (Value.int .i64 z)) ?_; omega), rfl⟩
  · rw [folW_e h hc]
    go_enter Tryz.func170, Tryz.ntmps170
    go_wp2_with fail
    all_goals
      go_ret
      exact ⟨by first | rfl | (refine congrArg (fun z : Int => Ending.returned (Value.int .i64 z)) ?_; omega), rfl⟩

theorem plus_lit (n a b : Int) (h : twoB n a b = true) (w : World) :
    Calls Tryz.prog 171 #[.int .i64 n, .int .i64 a, .int .i64 b] w fun e w' => e = .returned (.int .i64 (plusW n a b)) ∧ w = w' := by
  obtain ⟨_, _, k1, k2, k3, k4, k5, k6⟩ := twoB_of h
  by_cases hc : a + b ≤ n
  · rw [plusW_t h hc]
    go_enter Tryz.func171, Tryz.ntmps171
    go_wp2_with fail
    all_goals
      go_ret
      exact ⟨by first | rfl | (refine congrArg (fun z : Int => Ending.returned (Value.int .i64 z)) ?_; omega), rfl⟩
  · rw [plusW_e h hc]
    go_enter Tryz.func171, Tryz.ntmps171
    go_wp2_with fail
    all_goals
      go_ret
      exact ⟨by first | rfl | (refine congrArg (fun z : Int => Ending.returned (Value.int .i64 z)) ?_; omega), rfl⟩

theorem times_lit (n a b : Int) (h : twoB n a b = true) (w : World) :
    Calls Tryz.prog 172 #[.int .i64 n, .int .i64 a, .int .i64 b] w fun e w' => e = .returned (.int .i64 (timesW n a b)) ∧ w = w' := by
  obtain ⟨_, _, k1, k2, k3, k4, k5, k6⟩ := twoB_of h
  by_cases hc : 0 ≤ a + b - n
  · rw [timesW_t h hc]
    go_enter Tryz.func172, Tryz.ntmps172
    go_wp2_with fail
    all_goals
      go_ret
      exact ⟨by first | rfl | (refine congrArg (fun z : Int => Ending.returned (Value.int .i64 z)) ?_; omega), rfl⟩
  · rw [timesW_e h hc]
    go_enter Tryz.func172, Tryz.ntmps172
    go_wp2_with fail
    all_goals
      go_ret
      exact ⟨by first | rfl | (refine congrArg (fun z : Int => Ending.returned (Value.int .i64 z)) ?_; omega), rfl⟩

theorem less_lit (n a b : Int) (h : twoB n a b = true) (w : World) :
    Calls Tryz.prog 173 #[.int .i64 n, .int .i64 a, .int .i64 b] w fun e w' => e = .returned (.int .i64 (lessW n a b)) ∧ w = w' := by
  obtain ⟨_, _, k1, k2, k3, k4, k5, k6⟩ := twoB_of h
  by_cases hc : a ≤ b
  · rw [lessW_t h hc]
    go_enter Tryz.func173, Tryz.ntmps173
    go_wp2_with fail
    all_goals
      go_ret
      exact ⟨by first | rfl | (refine congrArg (fun z : Int => Ending.returned (Value.int .i64 z)) ?_; omega), rfl⟩
  · rw [lessW_e h hc]
    go_enter Tryz.func173, Tryz.ntmps173
    go_wp2_with fail
    all_goals
      go_ret
      exact ⟨by first | rfl | (refine congrArg (fun z : Int => Ending.returned (Value.int .i64 z)) ?_; omega), rfl⟩

theorem great_lit (n a b : Int) (h : twoB n a b = true) (w : World) :
    Calls Tryz.prog 174 #[.int .i64 n, .int .i64 a, .int .i64 b] w fun e w' => e = .returned (.int .i64 (greatW n a b)) ∧ w = w' := by
  obtain ⟨_, _, k1, k2, k3, k4, k5, k6⟩ := twoB_of h
  by_cases hc : a ≤ b
  · rw [greatW_t h hc]
    go_enter Tryz.func174, Tryz.ntmps174
    go_wp2_with fail
    all_goals
      go_ret
      exact ⟨by first | rfl | (refine congrArg (fun z : Int => Ending.returned (Value.int .i64 z)) ?_; omega), rfl⟩
  · rw [greatW_e h hc]
    go_enter Tryz.func174, Tryz.ntmps174
    go_wp2_with fail
    all_goals
      go_ret
      exact ⟨by first | rfl | (refine congrArg (fun z : Int => Ending.returned (Value.int .i64 z)) ?_; omega), rfl⟩

def SignsPost (w : World) (e : Ending) (w' : World) : Prop :=
  e = .returned (.map (some w.heap.size)) ∧ w'.ownsMap Tryz.prog 9 anyElem w.heap.size 5 signsD ∧ w.grownBy w' none

theorem signs_any (w : World) : Calls Tryz.prog 139 #[] w (SignsPost w) := by
  have hmm : ∀ w, (Instr.makeMap 151 none).run Tryz.prog w = .ok (.map (some w.heap.size)) (w.alloc (.map #[] 0)) := fun _ => rfl
  have g0 := World.grownBy_alloc w (.map #[] 0) none
  have o0 : (w.alloc (.map #[] 0)).ownsMap Tryz.prog 9 anyElem w.heap.size 0 (DataW.map []) := World.ownsMap_made _ _ _ _
  go_enter Tryz.func139, Tryz.ntmps139
  go_wp2_with (first
    | (refine insert_own _ rfl _ _ _ 151 rfl 9 203 keyedS Tryz.underlying151 anyElem w.heap.size 0 _ rfl o0 (by unfold maxLen; omega) (.string ⟨#[62]⟩) (fnV 170) (signK 62) rfl rfl (signK_of 62) (.held (fnV 170)) [] rfl ?_; intro w1 o1 h1; have g1 := grownBy_own g0 h1)
    | (refine insert_own _ rfl _ _ _ 151 rfl 9 203 keyedS Tryz.underlying151 anyElem w.heap.size 1 _ rfl o1 (by unfold maxLen; omega) (.string ⟨#[43]⟩) (fnV 171) (signK 43) rfl rfl (signK_of 43) (.held (fnV 171)) [] rfl ?_; intro w2 o2 h2; have g2 := grownBy_own g1 h2)
    | (refine insert_own _ rfl _ _ _ 151 rfl 9 203 keyedS Tryz.underlying151 anyElem w.heap.size 2 _ rfl o2 (by unfold maxLen; omega) (.string ⟨#[42]⟩) (fnV 172) (signK 42) rfl rfl (signK_of 42) (.held (fnV 172)) [] rfl ?_; intro w3 o3 h3; have g3 := grownBy_own g2 h3)
    | (refine insert_own _ rfl _ _ _ 151 rfl 9 203 keyedS Tryz.underlying151 anyElem w.heap.size 3 _ rfl o3 (by unfold maxLen; omega) (.string ⟨#[38]⟩) (fnV 173) (signK 38) rfl rfl (signK_of 38) (.held (fnV 173)) [] rfl ?_; intro w4 o4 h4; have g4 := grownBy_own g3 h4)
    | (refine insert_own _ rfl _ _ _ 151 rfl 9 203 keyedS Tryz.underlying151 anyElem w.heap.size 4 _ rfl o4 (by unfold maxLen; omega) (.string ⟨#[124]⟩) (fnV 174) (signK 124) rfl rfl (signK_of 124) (.held (fnV 174)) [] rfl ?_; intro w5 o5 h5; have g5 := grownBy_own g4 h5))
  go_ret
  exact ⟨rfl, o5, g5⟩

end Go.Proofs.YtlnffpofbfigaaaGreatDoor

/-
  The contracts of impl's five signs of two values, and of ManyTimes on both sides. No condition.
-/
namespace Go.Proofs.YtlnffpofbfigaaaGreatDoor
open Go.RowKit Go.Maps Go.Joins

end Go.Proofs.YtlnffpofbfigaaaGreatDoor

/-
  What follows of premises, as trees over the values of the letters by their places: follows, counts, powers, the formula that tells that one follows of the other. No program is named.
-/
namespace Go.Proofs.YtlnffpofbfigaaaGreatDoor

def truK (n : Nat) (t : Tr) (k : Nat) : Bool := atK n t k == (n : Int)
def allK (n : Nat) (ts : List Tr) (k : Nat) : Bool := ts.all fun t => truK n t k
def folK (n : Nat) (ts : List Tr) (t : Tr) : Bool := (List.range (cub n)).all fun k => !allK n ts k || truK n t k
theorem folK_of {n : Nat} {ts : List Tr} {t : Tr} (h : folK n ts t = true) {k : Nat} (hk : k < cub n) (ha : allK n ts k = true) : truK n t k = true := by
  unfold folK at h
  rw [List.all_eq_true] at h
  have := h k (List.mem_range.2 hk)
  rw [ha] at this
  simpa using this
theorem folK_mk {n : Nat} {ts : List Tr} {t : Tr} (h : ∀ k, k < cub n → allK n ts k = true → truK n t k = true) : folK n ts t = true := by
  unfold folK
  rw [List.all_eq_true]
  intro k hk
  cases ha : allK n ts k
  · rfl
  · rw [h k (List.mem_range.1 hk) ha]; rfl
theorem folK_no {n : Nat} {ts : List Tr} {t : Tr} {k : Nat} (hk : k < cub n) (ha : allK n ts k = true) (ht : truK n t k = false) : folK n ts t = false := by
  cases h : folK n ts t
  · rfl
  · rw [folK_of h hk ha] at ht; cases ht
/-- Each premise follows. -/
theorem folK_mem {n : Nat} {ts : List Tr} {t : Tr} (h : t ∈ ts) : folK n ts t = true := folK_mk fun k _ ha => by
  unfold allK at ha
  rw [List.all_eq_true] at ha
  exact ha t h
theorem truK_zero {n : Nat} (hn : 1 ≤ n) (k : Nat) : truK n (.tru false) k = false := by
  unfold truK
  rw [beq_eq_false_iff_ne]
  show (0 : Int) ≠ (n : Int)
  omega
end Go.Proofs.YtlnffpofbfigaaaGreatDoor

/-
  What chapter 7 says, as plain lists of texts: premises, what follows of them, how many values make them true, powers, what is deduced. No program is named.
-/
namespace Go.Proofs.YtlnffpofbfigaaaGreatDoor

def fsOf : List (List UInt8) → Option (List Tr)
  | [] => some []
  | l :: ls => match fOf l, fsOf ls with
    | some t, some ts => some (t :: ts)
    | _, _ => none
theorem fsOf_cons {l : List UInt8} {ls : List (List UInt8)} {t : Tr} {ts : List Tr} (h : fOf l = some t) (k : fsOf ls = some ts) : fsOf (l :: ls) = some (t :: ts) := by unfold fsOf; rw [h, k]
theorem fsOf_parts {l : List UInt8} {ls : List (List UInt8)} {ts : List Tr} (h : fsOf (l :: ls) = some ts) : ∃ t us, fOf l = some t ∧ fsOf ls = some us ∧ ts = t :: us := by
  unfold fsOf at h
  cases h1 : fOf l with
  | none => rw [h1] at h; cases h
  | some t =>
    cases h2 : fsOf ls with
    | none => rw [h1, h2] at h; cases h
    | some us => rw [h1, h2] at h; cases h; exact ⟨t, us, rfl, rfl, rfl⟩
theorem fsOf_len : ∀ {ls : List (List UInt8)} {ts : List Tr}, fsOf ls = some ts → ts.length = ls.length
  | [], ts, h => by cases h; rfl
  | l :: ls, ts, h => by
    obtain ⟨t, us, _, h2, rfl⟩ := fsOf_parts h
    simp [fsOf_len h2]
theorem fsOf_at : ∀ {ls : List (List UInt8)} {ts : List Tr}, fsOf ls = some ts → ∀ i, i < ls.length → ∃ t, ts[i]? = some t ∧ fOf (ls.getD i []) = some t
  | [], _, _, i, hi => by simp at hi
  | l :: ls, ts, h, i, hi => by
    obtain ⟨t, us, h1, h2, rfl⟩ := fsOf_parts h
    cases i with
    | zero => exact ⟨t, rfl, h1⟩
    | succ i =>
      obtain ⟨u, hu, hf⟩ := fsOf_at h2 i (by simpa using hi)
      exact ⟨u, by simpa using hu, by simpa using hf⟩
theorem fsOf_of : ∀ {ls : List (List UInt8)}, (∀ i, i < ls.length → isF (ls.getD i []) = true) → ∃ ts, fsOf ls = some ts
  | [], _ => ⟨[], rfl⟩
  | l :: ls, h => by
    obtain ⟨t, ht⟩ := isF_of (h 0 (by simp))
    obtain ⟨ts, hts⟩ := fsOf_of (ls := ls) fun i hi => by simpa using h (i + 1) (by simp; omega)
    exact ⟨t :: ts, fsOf_cons (by simpa using ht) hts⟩
def prOf (ls : List (List UInt8)) : Option (List Tr) := if ls.length ≤ 3 then fsOf ls else none
theorem prOf_s {ls : List (List UInt8)} (h : ls.length ≤ 3) : prOf ls = fsOf ls := if_pos h
theorem prOf_l {ls : List (List UInt8)} (h : ¬ ls.length ≤ 3) : prOf ls = none := if_neg h
theorem prOf_of {ls : List (List UInt8)} {ts : List Tr} (h : prOf ls = some ts) : ls.length ≤ 3 ∧ fsOf ls = some ts := by
  unfold prOf at h
  split at h
  · exact ⟨by assumption, h⟩
  · cases h
def premB (ls : List (List UInt8)) : Bool := (prOf ls).isSome
theorem premB_t {ls : List (List UInt8)} {ts : List Tr} (h : prOf ls = some ts) : premB ls = true := by unfold premB; rw [h]; rfl
theorem premB_f {ls : List (List UInt8)} (h : prOf ls = none) : premB ls = false := by unfold premB; rw [h]; rfl
def folI (n : Int) (ls : List (List UInt8)) (l : List UInt8) : Bool :=
  match prOf ls, fOf l with
  | some ts, some t => inB n 1 6 && folK n.toNat ts t
  | _, _ => false
theorem folI_p {n : Int} {ls : List (List UInt8)} {l : List UInt8} (h : prOf ls = none) : folI n ls l = false := by unfold folI; rw [h]
theorem folI_n {n : Int} {ls : List (List UInt8)} {l : List UInt8} (h : fOf l = none) : folI n ls l = false := by unfold folI; rw [h]; cases prOf ls <;> rfl
theorem folI_o {n : Int} {ls : List (List UInt8)} {l : List UInt8} (h : inB n 1 6 = false) : folI n ls l = false := by unfold folI; rw [h]; cases prOf ls <;> cases fOf l <;> rfl
theorem folI_t {n : Nat} {ls : List (List UInt8)} {l : List UInt8} {ts : List Tr} {t : Tr} (h : prOf ls = some ts) (k : fOf l = some t) (hn : inB n 1 6 = true) : folI n ls l = folK n ts t := by
  unfold folI; rw [h, k]; simp only [hn, Bool.true_and, Int.toNat_natCast]
end Go.Proofs.YtlnffpofbfigaaaGreatDoor
