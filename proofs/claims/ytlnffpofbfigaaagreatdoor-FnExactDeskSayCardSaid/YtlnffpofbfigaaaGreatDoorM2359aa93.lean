/-
  Joined out of the texts Base, Desk, DeskN, Sign, FVal, Alw, AlwF, Far, Set, DAft: what each holds is told at its head.
-/
import Derived.Test.YtlnffpofbfigaaaGreatDoorChecked
import Derived.WalkKit
import Derived.WalkLawsBesides
import Derived.WalkSpells
import Derived.Lib.Hide
import Derived.RowKit3
import Derived.Below
import Derived.Test.YtlnffpofbfigaaaGreatDoorN3fe4357e

/-
  Contracts of the functions of chapter 1 that only compute with numbers: l1In, ValueOk (both), stepsOk, alive. No condition.
-/
namespace Go.Proofs.YtlnffpofbfigaaaGreatDoor
open Go.RowKit

/-! Worlds that differ by new blocks and by writes to one block. -/
theorem grownBy_refl (w : World) (row : Option Nat) : w.grownBy w row := ⟨rfl, rfl, rfl, Nat.le_refl _, fun _ _ _ => rfl⟩
theorem grownBy_trans {a b c : World} {row : Option Nat} (h : a.grownBy b row) (k : b.grownBy c row) : a.grownBy c row :=
  ⟨k.os.trans h.os, k.tape.trans h.tape, k.output.trans h.output, Nat.le_trans h.size k.size, fun i hi hne => (k.block i (Nat.lt_of_lt_of_le hi h.size) hne).trans (h.block i hi hne)⟩
theorem grownBy_drew {a b : World} {row : Option Nat} (h : a.grownBy b row) : a.grownBy b.drew row := ⟨h.os, h.tape, h.output, h.size, h.block⟩
theorem grownBy_drewN {a b : World} {row : Option Nat} (h : a.grownBy b row) (n : Nat) : a.grownBy (b.drewN n) row := ⟨h.os, h.tape, h.output, h.size, h.block⟩
theorem grownBy_set (w : World) (r o : Nat) (v : Value) : w.grownBy (w.setCell ⟨r, o, none⟩ v) (some r) :=
  ⟨rfl, rfl, rfl, by simp [World.setCell], fun k _ hne => Below.heap_setCell w ⟨r, o, none⟩ v k (fun e => hne (by rw [e]))⟩

/-- Two steps, where only a block that the first one made is written: below the first world's size nothing has turned. -/
theorem grownBy_own {a b c : World} (h : a.grownBy b none) (k : b.grownBy c (some a.heap.size)) : a.grownBy c none :=
  ⟨k.os.trans h.os, k.tape.trans h.tape, k.output.trans h.output, Nat.le_trans h.size k.size,
    fun i hi _ => (k.block i (Nat.lt_of_lt_of_le hi h.size) (by simp; omega)).trans (h.block i hi (by simp))⟩
theorem below_of {a b : World} (h : a.grownBy b none) : Below a.heap.size a b := ⟨h.os, h.tape, h.output, h.size, fun k hk => h.block k hk (by simp)⟩

theorem add_none (b off i : Nat) : (⟨b, off, none⟩ : Addr).add i = ⟨b, off + i, none⟩ := by unfold Addr.add; split <;> simp_all

theorem cells_two {w : World} {r : Nat} {x y : Value} {t : TypeId} (h : w.heap[r]? = some (.cells #[x, y] t)) :
    w.cell? ⟨r, 0, none⟩ = some x ∧ w.cell? ⟨r, 1, none⟩ = some y ∧ w.frozen? ⟨r, 1, none⟩ = false := ⟨by simp [World.cell?, h], by simp [World.cell?, h], by simp [World.frozen?, h]⟩

theorem cells_new {w : World} {r : Nat} {x y : Value} {t : TypeId} (h : w.heap[r]? = some (.cells #[x, y] t)) :
    w.cell? ⟨r, 0, none⟩ = some x ∧ w.cell? ⟨r, 1, none⟩ = some y ∧ w.frozen? ⟨r, 0, none⟩ = false ∧ w.frozen? ⟨r, 1, none⟩ = false :=
  ⟨by simp [World.cell?, h], by simp [World.cell?, h], by simp [World.frozen?, h], by simp [World.frozen?, h]⟩

def inB (n lo hi : Int) : Bool := decide (lo ≤ n ∧ n ≤ hi)
theorem inB_t {n lo hi : Int} (h : lo ≤ n ∧ n ≤ hi) : inB n lo hi = true := by unfold inB; simpa using h
theorem inB_f {n lo hi : Int} (h : ¬ (lo ≤ n ∧ n ≤ hi)) : inB n lo hi = false := by unfold inB; simpa using h
theorem inB_of {n lo hi : Int} (h : inB n lo hi = true) : lo ≤ n ∧ n ≤ hi := by unfold inB at h; simpa using h
theorem inB_not {n lo hi : Int} (h : inB n lo hi = false) : ¬ (lo ≤ n ∧ n ≤ hi) := by unfold inB at h; simpa using h

def vokB (n v : Int) : Bool := decide (1 ≤ n ∧ n ≤ 6 ∧ 0 ≤ v ∧ v ≤ n)
theorem vokB_t {n v : Int} (h : 1 ≤ n ∧ n ≤ 6 ∧ 0 ≤ v ∧ v ≤ n) : vokB n v = true := by unfold vokB; simpa using h
theorem vokB_f {n v : Int} (h : ¬ (1 ≤ n ∧ n ≤ 6 ∧ 0 ≤ v ∧ v ≤ n)) : vokB n v = false := by unfold vokB; simpa using h
theorem vokB_of {n v : Int} (h : vokB n v = true) : 1 ≤ n ∧ n ≤ 6 ∧ 0 ≤ v ∧ v ≤ n := by unfold vokB at h; simpa using h
theorem in_any (n lo hi : Int) (w : World) :
    Calls Tryz.prog 96 #[.int .i64 n, .int .i64 lo, .int .i64 hi] w fun e w' => e = .returned (.bool (inB n lo hi)) ∧ w = w' := by
  by_cases h1 : lo ≤ n
  · by_cases h2 : n ≤ hi
    · rw [inB_t ⟨h1, h2⟩]
      go_enter Tryz.func96, Tryz.ntmps96
      go_wp2
      go_ret
      exact ⟨rfl, rfl⟩
    · rw [inB_f (by omega)]
      go_enter Tryz.func96, Tryz.ntmps96
      go_wp2
      go_ret
      exact ⟨rfl, rfl⟩
  · rw [inB_f (by omega)]
    go_enter Tryz.func96, Tryz.ntmps96
    go_wp2
    go_ret
    exact ⟨rfl, rfl⟩

theorem steps_any (n : Int) (w : World) :
    Calls Tryz.prog 107 #[.int .i64 n] w fun e w' => e = .returned (.bool (inB n 1 6)) ∧ w = w' := by
  by_cases h1 : 1 ≤ n
  · by_cases h2 : n ≤ 6
    · rw [inB_t ⟨h1, h2⟩]
      go_enter Tryz.func107, Tryz.ntmps107
      go_wp2
      go_ret
      exact ⟨rfl, rfl⟩
    · rw [inB_f (by omega)]
      go_enter Tryz.func107, Tryz.ntmps107
      go_wp2
      go_ret
      exact ⟨rfl, rfl⟩
  · rw [inB_f (by omega)]
    go_enter Tryz.func107, Tryz.ntmps107
    go_wp2
    go_ret
    exact ⟨rfl, rfl⟩

theorem svok_any (n v : Int) (w : World) :
    Calls Tryz.prog 116 #[.int .i64 n, .int .i64 v] w fun e w' => e = .returned (.bool (vokB n v)) ∧ w = w' := by
  by_cases h1 : 1 ≤ n ∧ n ≤ 6
  · by_cases h2 : 0 ≤ v ∧ v ≤ n
    · rw [vokB_t ⟨h1.1, h1.2, h2.1, h2.2⟩]
      have e1 := inB_t h1
      have e2 := inB_t h2
      go_enter Tryz.func116, Tryz.ntmps116
      go_wp2_with (go_at_call 96; refine (in_any _ _ _ _).mono ?_; rintro e w' ⟨rfl, rfl⟩)
      go_ret
      exact ⟨rfl, rfl⟩
    · rw [vokB_f (by omega)]
      have e1 := inB_t h1
      have e2 := inB_f h2
      go_enter Tryz.func116, Tryz.ntmps116
      go_wp2_with (go_at_call 96; refine (in_any _ _ _ _).mono ?_; rintro e w' ⟨rfl, rfl⟩)
      go_ret
      exact ⟨rfl, rfl⟩
  · rw [vokB_f (by omega)]
    have e1 := inB_f h1
    go_enter Tryz.func116, Tryz.ntmps116
    go_wp2_with (go_at_call 96; refine (in_any _ _ _ _).mono ?_; rintro e w' ⟨rfl, rfl⟩)
    go_ret
    exact ⟨rfl, rfl⟩

theorem vok_any (n v : Int) (w : World) :
    Calls Tryz.prog 58 #[.int .i64 n, .int .i64 v] w fun e w' => e = .returned (.bool (vokB n v)) ∧ w = w' := by
  by_cases h1 : 1 ≤ n ∧ n ≤ 6
  · have e1 := inB_t h1
    by_cases h2 : 0 ≤ v
    · by_cases h3 : v ≤ n
      · rw [vokB_t ⟨h1.1, h1.2, h2, h3⟩]
        go_enter Tryz.func58, Tryz.ntmps58
        go_wp2_with (go_at_call 107; refine (steps_any _ _).mono ?_; rintro e w' ⟨rfl, rfl⟩)
        go_ret
        exact ⟨rfl, rfl⟩
      · rw [vokB_f (by omega)]
        have h4 : decide (v ≤ n) = false := by simpa using h3
        go_enter Tryz.func58, Tryz.ntmps58
        go_wp2_with (go_at_call 107; refine (steps_any _ _).mono ?_; rintro e w' ⟨rfl, rfl⟩)
        go_ret
        exact ⟨rfl, rfl⟩
    · rw [vokB_f (by omega)]
      go_enter Tryz.func58, Tryz.ntmps58
      go_wp2_with (go_at_call 107; refine (steps_any _ _).mono ?_; rintro e w' ⟨rfl, rfl⟩)
      go_ret
      exact ⟨rfl, rfl⟩
  · rw [vokB_f (by omega)]
    have e1 := inB_f h1
    go_enter Tryz.func58, Tryz.ntmps58
    go_wp2_with (go_at_call 107; refine (steps_any _ _).mono ?_; rintro e w' ⟨rfl, rfl⟩)
    go_ret
    exact ⟨rfl, rfl⟩

theorem alive_any (w : World) :
    Calls Tryz.prog 19 #[] w fun e w' => e = .returned (.bool true) ∧ w = w' := by
  have e1 : vokB 2 1 = true := vokB_t (by omega)
  have e2 : vokB 2 3 = false := vokB_f (by omega)
  go_enter Tryz.func19, Tryz.ntmps19
  go_wp2_with (go_at_call 58; refine (vok_any _ _ _).mono ?_; rintro e w' ⟨rfl, rfl⟩)
  go_ret
  exact ⟨rfl, rfl⟩

end Go.Proofs.YtlnffpofbfigaaaGreatDoor

/-
  A desk, deeds and their texts, journals: as plain numbers and lists of bytes. No program is named.
-/
namespace Go.Proofs.YtlnffpofbfigaaaGreatDoor

/-- A chain's steps and a formula's text; what a desk has now and had before, the last ones last; a deed's kind, steps and text. -/
abbrev Ld := Int × List UInt8
abbrev Dk := Ld × List Ld
abbrev Dd := Int × Int × List UInt8

def ldB (x : Ld) : Bool := inB x.1 1 6 && isF x.2
theorem ldB_of {x : Ld} (h : ldB x = true) : inB x.1 1 6 = true ∧ isF x.2 = true := by unfold ldB at h; rwa [Bool.and_eq_true] at h
def dkB (d : Dk) : Bool := d.2.all ldB && (ldB d.1 && decide (d.2.length ≤ 8))
theorem dkB_of {d : Dk} (h : dkB d = true) : (∀ x ∈ d.2, ldB x = true) ∧ ldB d.1 = true ∧ d.2.length ≤ 8 := by
  unfold dkB at h
  rw [Bool.and_eq_true, Bool.and_eq_true, List.all_eq_true] at h
  exact ⟨h.1, h.2.1, of_decide_eq_true h.2.2⟩
theorem dkB_mk {d : Dk} (h : ∀ x ∈ d.2, ldB x = true) (k : ldB d.1 = true) (hl : d.2.length ≤ 8) : dkB d = true := by
  unfold dkB
  rw [Bool.and_eq_true, Bool.and_eq_true, List.all_eq_true]
  exact ⟨h, k, decide_eq_true hl⟩
/-- What a deed makes of a chain and a formula, be they ones or not. -/
def rawD (x : Ld) (a : Dd) : Option Ld :=
  if a.1 = 0 ∧ a.2.2 = [] then some (a.2.1, x.2)
  else if a.1 = 1 ∧ a.2.1 = 0 then some (x.1, a.2.2)
  else if a = (2, 0, []) then some (x.1, 33 :: x.2)
  else if a.1 = 3 ∧ a.2.1 = 0 ∧ isF a.2.2 = true then some (x.1, 40 :: (x.2 ++ 42 :: (a.2.2 ++ [41])))
  else if a.1 = 4 ∧ a.2.1 = 0 ∧ isF a.2.2 = true then some (x.1, 40 :: (a.2.2 ++ 62 :: (x.2 ++ [41])))
  else if a = (5, 0, []) ∧ basB x.2 = true then some (x.1, basT x.2)
  else none
def newD (x : Ld) (a : Dd) : Option Ld :=
  match rawD x a with
  | some y => if ldB y = true ∧ y ≠ x then some y else none
  | none => none
theorem newD_of {x y : Ld} {a : Dd} (h : newD x a = some y) : rawD x a = some y ∧ ldB y = true ∧ y ≠ x := by
  unfold newD at h
  cases e : rawD x a with
  | none => rw [e] at h; cases h
  | some z =>
    rw [e] at h
    simp only [] at h
    split at h
    · rename_i hz; cases h; exact ⟨rfl, hz.1, hz.2⟩
    · cases h
theorem newD_mk {x y : Ld} {a : Dd} (h : rawD x a = some y) (k : ldB y = true) (hn : y ≠ x) : newD x a = some y := by
  unfold newD; rw [h]; exact if_pos ⟨k, hn⟩
theorem newD_raw {x : Ld} {a : Dd} (h : rawD x a = none) : newD x a = none := by unfold newD; rw [h]
def capP (l : List Ld) : List Ld := l.drop (l.length - 8)
theorem capP_short {l : List Ld} (h : l.length ≤ 8) : capP l = l := by unfold capP; rw [show l.length - 8 = 0 by omega]; rfl
theorem capP_nine {l : List Ld} (h : l.length = 9) : capP l = l.drop 1 := by unfold capP; rw [h]
theorem capP_len (l : List Ld) : (capP l).length ≤ 8 := by unfold capP; rw [List.length_drop]; omega
theorem capP_mem {l : List Ld} {x : Ld} (h : x ∈ capP l) : x ∈ l := List.mem_of_mem_drop h

/-- A desk after a deed, none if it cannot be done. -/
def doD (d : Dk) (a : Dd) : Option Dk :=
  if a = (6, 0, []) then (match d.2.getLast? with | some p => some (p, d.2.dropLast) | none => none)
  else match newD d.1 a with
    | some y => some (y, capP (d.2 ++ [d.1]))
    | none => none
theorem doD_back {d : Dk} {p : Ld} (h : d.2.getLast? = some p) : doD d (6, 0, []) = some (p, d.2.dropLast) := by unfold doD; rw [if_pos rfl, h]
theorem doD_back0 {d : Dk} (h : d.2 = []) : doD d (6, 0, []) = none := by unfold doD; rw [if_pos rfl, h]; rfl
theorem doD_new {d : Dk} {a : Dd} {y : Ld} (ha : a ≠ (6, 0, [])) (h : newD d.1 a = some y) : doD d a = some (y, capP (d.2 ++ [d.1])) := by unfold doD; rw [if_neg ha, h]
theorem doD_none {d : Dk} {a : Dd} (ha : a ≠ (6, 0, [])) (h : newD d.1 a = none) : doD d a = none := by unfold doD; rw [if_neg ha, h]
theorem doD_of {d e : Dk} {a : Dd} (h : doD d a = some e) : (a = (6, 0, []) ∧ ∃ p, d.2.getLast? = some p ∧ e = (p, d.2.dropLast)) ∨ (a ≠ (6, 0, []) ∧ ∃ y, newD d.1 a = some y ∧ e = (y, capP (d.2 ++ [d.1]))) := by
  unfold doD at h
  split at h
  · rename_i ha
    cases hp : d.2.getLast? with
    | none => rw [hp] at h; cases h
    | some p => rw [hp] at h; cases h; exact .inl ⟨ha, p, rfl, rfl⟩
  · rename_i ha
    cases hy : newD d.1 a with
    | none => rw [hy] at h; cases h
    | some y => rw [hy] at h; cases h; exact .inr ⟨ha, y, rfl, rfl⟩

theorem do_ok {d e : Dk} {a : Dd} (hd : dkB d = true) (h : doD d a = some e) : dkB e = true := by
  obtain ⟨h1, h2, h3⟩ := dkB_of hd
  rcases doD_of h with ⟨_, p, hp, rfl⟩ | ⟨_, y, hy, rfl⟩
  · exact dkB_mk (fun x hx => h1 x (List.dropLast_subset _ hx)) (h1 p (List.mem_of_getLast? hp)) (by show d.2.dropLast.length ≤ 8; rw [List.length_dropLast]; omega)
  · refine dkB_mk (fun x hx => ?_) (newD_of hy).2.1 (capP_len _)
    have := capP_mem hx
    rw [List.mem_append, List.mem_singleton] at this
    rcases this with k | k
    · exact h1 x k
    · rw [k]; exact h2
/-! Texts of deeds. -/
def chainW : List UInt8 := [99, 104, 97, 105, 110, 32]
def sayW : List UInt8 := [115, 97, 121, 32]
def timesW' : List UInt8 := [116, 105, 109, 101, 115, 32]
def ifW : List UInt8 := [105, 102, 32]
def notD : List UInt8 := [110, 111, 116]
def basicD : List UInt8 := [98, 97, 115, 105, 99]
def backD : List UInt8 := [98, 97, 99, 107]

def txD (a : Dd) : List UInt8 :=
  if a.1 = 0 ∧ a.2.2 = [] ∧ inB a.2.1 0 9 = true then chainW ++ [UInt8.ofNat (48 + a.2.1.toNat)]
  else if a.1 = 1 ∧ a.2.1 = 0 ∧ isF a.2.2 = true then sayW ++ a.2.2
  else if a.1 = 3 ∧ a.2.1 = 0 ∧ isF a.2.2 = true then timesW' ++ a.2.2
  else if a.1 = 4 ∧ a.2.1 = 0 ∧ isF a.2.2 = true then ifW ++ a.2.2
  else if a = (2, 0, []) then notD
  else if a = (5, 0, []) then basicD
  else if a = (6, 0, []) then backD
  else []

/-- What a deed must be to have a text, and the text. -/
inductive Told : Dd → List UInt8 → Prop where
  | chain (k : Nat) (h : k ≤ 9) : Told (0, (k : Int), []) (chainW ++ [UInt8.ofNat (48 + k)])
  | say (t : List UInt8) (h : isF t = true) : Told (1, 0, t) (sayW ++ t)
  | times (t : List UInt8) (h : isF t = true) : Told (3, 0, t) (timesW' ++ t)
  | ifs (t : List UInt8) (h : isF t = true) : Told (4, 0, t) (ifW ++ t)
  | nots : Told (2, 0, []) notD
  | basic : Told (5, 0, []) basicD
  | back : Told (6, 0, []) backD
theorem told_of {a : Dd} (h : txD a ≠ []) : Told a (txD a) := by
  obtain ⟨k, n, s⟩ := a
  unfold txD at h ⊢
  split at h
  · rename_i c
    rw [if_pos c]
    obtain ⟨h1, h2, h3⟩ := c
    change k = 0 at h1
    change s = [] at h2
    change inB n 0 9 = true at h3
    subst h1 h2
    have hb := inB_of h3
    obtain ⟨m, rfl⟩ : ∃ m : Nat, n = m := ⟨n.toNat, by omega⟩
    exact Told.chain m (by omega)
  · rename_i c1
    rw [if_neg c1]
    split at h
    · rename_i c
      rw [if_pos c]
      obtain ⟨h1, h2, h3⟩ := c
      change k = 1 at h1
      change n = 0 at h2
      subst h1 h2
      exact Told.say s h3
    · rename_i c2
      rw [if_neg c2]
      split at h
      · rename_i c
        rw [if_pos c]
        obtain ⟨h1, h2, h3⟩ := c
        change k = 3 at h1
        change n = 0 at h2
        subst h1 h2
        exact Told.times s h3
      · rename_i c3
        rw [if_neg c3]
        split at h
        · rename_i c
          rw [if_pos c]
          obtain ⟨h1, h2, h3⟩ := c
          change k = 4 at h1
          change n = 0 at h2
          subst h1 h2
          exact Told.ifs s h3
        · rename_i c4
          rw [if_neg c4]
          split at h
          · rename_i c; rw [if_pos c, c]; exact Told.nots
          · rename_i c5
            rw [if_neg c5]
            split at h
            · rename_i c; rw [if_pos c, c]; exact Told.basic
            · rename_i c6
              rw [if_neg c6]
              split at h
              · rename_i c; rw [if_pos c, c]; exact Told.back
              · exact absurd rfl h
theorem tx_told {a : Dd} {s : List UInt8} (h : Told a s) : txD a = s := by
  cases h with
  | chain k h =>
    unfold txD
    have hb : inB ((k : Nat) : Int) 0 9 = true := inB_t (by omega)
    rw [if_pos ⟨rfl, rfl, hb⟩]
    rfl
  | say t h => unfold txD; rw [if_neg (by simp), if_pos ⟨rfl, rfl, h⟩]
  | times t h => unfold txD; rw [if_neg (by simp), if_neg (by simp), if_pos ⟨rfl, rfl, h⟩]
  | ifs t h => unfold txD; rw [if_neg (by simp), if_neg (by simp), if_neg (by simp), if_pos ⟨rfl, rfl, h⟩]
  | nots => rfl
  | basic => rfl
  | back => rfl
theorem told_pos {a : Dd} {s : List UInt8} (h : Told a s) : s ≠ [] := by
  cases h <;> simp [chainW, sayW, timesW', ifW, notD, basicD, backD]
theorem tx_none {a : Dd} (h : ∀ s, ¬ Told a s) : txD a = [] := by
  by_cases k : txD a = []
  · exact k
  · exact absurd (told_of k) (h _)

/-- Bytes that are neither spaces nor newlines. -/
def noSp (l : List UInt8) : Prop := ∀ c ∈ l, c ≠ 32 ∧ c ≠ 10
theorem txt_noSp : ∀ t : Tr, noSp t.txt
  | .lt k => by cases k <;> (intro c hc; simp [Tr.txt, Lr.byte] at hc; subst hc; decide)
  | .tru b => by cases b <;> (intro c hc; simp [Tr.txt] at hc; subst hc; decide)
  | .neg x => by
    intro c hc
    rw [Tr.txt, List.mem_cons] at hc
    rcases hc with rfl | hc
    · decide
    · exact txt_noSp x c hc
  | .bin g x y => by
    intro c hc
    rw [Tr.txt, List.mem_cons, List.mem_append, List.mem_cons, List.mem_append, List.mem_singleton] at hc
    rcases hc with rfl | hc | rfl | hc | rfl
    · decide
    · exact txt_noSp x c hc
    · cases g <;> decide
    · exact txt_noSp y c hc
    · decide
theorem isF_noSp {l : List UInt8} (h : isF l = true) : noSp l := by
  obtain ⟨t, ht⟩ := isF_of h
  rw [(fOf_some ht).1]
  exact txt_noSp t
theorem isF_len {l : List UInt8} (h : isF l = true) : l.length ≤ 60 := by
  obtain ⟨t, ht⟩ := isF_of h
  obtain ⟨e, k⟩ := fOf_some ht
  rw [e]; exact k
theorem dig_sp {k : Nat} (h : k ≤ 9) : UInt8.ofNat (48 + k) ≠ 32 ∧ UInt8.ofNat (48 + k) ≠ 10 := by
  have : k = 0 ∨ k = 1 ∨ k = 2 ∨ k = 3 ∨ k = 4 ∨ k = 5 ∨ k = 6 ∨ k = 7 ∨ k = 8 ∨ k = 9 := by omega
  rcases this with rfl | rfl | rfl | rfl | rfl | rfl | rfl | rfl | rfl | rfl <;> decide
/-- What stands behind a beginning. -/
def behind (p s : List UInt8) : Option (List UInt8) := if p.isPrefixOf s then some (s.drop p.length) else none
theorem behind_of {p s r : List UInt8} (h : behind p s = some r) : s = p ++ r := by
  unfold behind at h
  split at h
  · rename_i hp
    cases h
    obtain ⟨q, rfl⟩ := List.isPrefixOf_iff_prefix.1 hp
    rw [List.drop_left]
  · cases h
theorem behind_mk (p r : List UInt8) : behind p (p ++ r) = some r := by
  unfold behind
  rw [if_pos (List.isPrefixOf_iff_prefix.2 (List.prefix_append p r)), List.drop_left]

/-- The deed of a text. -/
def rd3 (s : List UInt8) : Option Dd :=
  match behind ifW s with
  | some t => if isF t = true then some (4, 0, t) else none
  | none => none
def rd2 (s : List UInt8) : Option Dd :=
  match behind timesW' s with
  | some t => if isF t = true then some (3, 0, t) else none
  | none => rd3 s
def rd1 (s : List UInt8) : Option Dd :=
  match behind sayW s with
  | some t => if isF t = true then some (1, 0, t) else none
  | none => rd2 s
def rd0 (s : List UInt8) : Option Dd :=
  match behind chainW s with
  | some t => if t.length = 1 ∧ inB (((t.getD 0 0).toNat : Int) - 48) 0 9 = true then some (0, ((t.getD 0 0).toNat : Int) - 48, []) else none
  | none => rd1 s
def rdD (s : List UInt8) : Option Dd :=
  if s = notD then some (2, 0, [])
  else if s = basicD then some (5, 0, [])
  else if s = backD then some (6, 0, [])
  else rd0 s
theorem rd_told {s : List UInt8} {a : Dd} (h : rdD s = some a) : Told a s := by
  unfold rdD at h
  split at h
  · rename_i e; cases h; rw [e]; exact Told.nots
  split at h
  · rename_i e; cases h; rw [e]; exact Told.basic
  split at h
  · rename_i e; cases h; rw [e]; exact Told.back
  unfold rd0 at h
  cases e0 : behind chainW s with
  | some t =>
    rw [e0] at h
    simp only [] at h
    split at h
    · rename_i hc
      cases h
      obtain ⟨hl, hb⟩ := hc
      obtain ⟨c, rfl⟩ : ∃ c, t = [c] := List.length_eq_one_iff.1 hl
      have hb := inB_of hb
      change 0 ≤ (c.toNat : Int) - 48 ∧ (c.toNat : Int) - 48 ≤ 9 at hb
      rw [behind_of e0]
      have := Told.chain (c.toNat - 48) (by omega)
      rw [show 48 + (c.toNat - 48) = c.toNat by omega, UInt8.ofNat_toNat, show ((c.toNat - 48 : Nat) : Int) = (c.toNat : Int) - 48 by omega] at this
      exact this
    · cases h
  | none =>
  rw [e0] at h
  change rd1 s = some a at h
  unfold rd1 at h
  cases e1 : behind sayW s with
  | some t =>
    rw [e1] at h
    simp only [] at h
    split at h
    · rename_i ht; cases h; rw [behind_of e1]; exact Told.say t ht
    · cases h
  | none =>
  rw [e1] at h
  change rd2 s = some a at h
  unfold rd2 at h
  cases e2 : behind timesW' s with
  | some t =>
    rw [e2] at h
    simp only [] at h
    split at h
    · rename_i ht; cases h; rw [behind_of e2]; exact Told.times t ht
    · cases h
  | none =>
  rw [e2] at h
  change rd3 s = some a at h
  unfold rd3 at h
  cases e3 : behind ifW s with
  | some t =>
    rw [e3] at h
    simp only [] at h
    split at h
    · rename_i ht; cases h; rw [behind_of e3]; exact Told.ifs t ht
    · cases h
  | none => rw [e3] at h; cases h
theorem told_rd {s : List UInt8} {a : Dd} (h : Told a s) : rdD s = some a := by
  cases h with
  | chain k hk =>
    have e : (UInt8.ofNat (48 + k)).toNat = 48 + k := UInt8.toNat_ofNat_of_lt' (by show 48 + k < 256; omega)
    have e' : (((([UInt8.ofNat (48 + k)] : List UInt8).getD 0 0).toNat : Int) - 48) = (k : Int) := by
      show ((UInt8.ofNat (48 + k)).toNat : Int) - 48 = (k : Int)
      rw [e]; omega
    unfold rdD
    rw [if_neg (by simp [chainW, notD]), if_neg (by simp [chainW, basicD]), if_neg (by simp [chainW, backD])]
    unfold rd0
    rw [behind_mk]
    simp only [e']
    exact if_pos ⟨rfl, inB_t (by omega)⟩
  | say t ht =>
    unfold rdD
    rw [if_neg (by simp [sayW, notD]), if_neg (by simp [sayW, basicD]), if_neg (by simp [sayW, backD])]
    have e : behind chainW (sayW ++ t) = none := by simp [behind, chainW, sayW]
    unfold rd0 rd1
    rw [e, behind_mk]
    exact if_pos ht
  | times t ht =>
    unfold rdD
    rw [if_neg (by simp [timesW', notD]), if_neg (by simp [timesW', basicD]), if_neg (by simp [timesW', backD])]
    have e : behind chainW (timesW' ++ t) = none := by simp [behind, chainW, timesW']
    have e2 : behind sayW (timesW' ++ t) = none := by simp [behind, sayW, timesW']
    unfold rd0 rd1 rd2
    rw [e, e2, behind_mk]
    exact if_pos ht
  | ifs t ht =>
    unfold rdD
    rw [if_neg (by simp [ifW, notD]), if_neg (by simp [ifW, basicD]), if_neg (by simp [ifW, backD])]
    have e : behind chainW (ifW ++ t) = none := by simp [behind, chainW, ifW]
    have e2 : behind sayW (ifW ++ t) = none := by simp [behind, sayW, ifW]
    have e3 : behind timesW' (ifW ++ t) = none := by simp [behind, timesW', ifW]
    unfold rd0 rd1 rd2 rd3
    rw [e, e2, e3, behind_mk]
    exact if_pos ht
  | nots => rfl
  | basic => rfl
  | back => rfl
theorem rd_tx {a : Dd} (h : txD a ≠ []) : rdD (txD a) = some a := told_rd (told_of h)
theorem rdD_none {s : List UInt8} (h : ∀ a, ¬ Told a s) : rdD s = none := by
  cases e : rdD s with
  | none => rfl
  | some a => exact absurd (rd_told e) (h a)
/-! Journals. -/
def goJ : List UInt8 → List UInt8 → List Dd × Nat
  | _, [] => ([], 0)
  | cur, c :: r =>
    if c = 10 then
      match rdD cur with
      | none => ([], 0)
      | some a => (a :: (goJ [] r).1, cur.length + 1 + (goJ [] r).2)
    else goJ (cur ++ [c]) r
def rdJ (s : List UInt8) : List Dd × Nat := goJ [] s
theorem goJ_yes {cur : List UInt8} {a : Dd} (r : List UInt8) (h : rdD cur = some a) : goJ cur (10 :: r) = (a :: (goJ [] r).1, cur.length + 1 + (goJ [] r).2) := by
  show (if (10 : UInt8) = 10 then (match rdD cur with | none => ([], 0) | some a => (a :: (goJ [] r).1, cur.length + 1 + (goJ [] r).2)) else goJ (cur ++ [10]) r) = _
  rw [if_pos rfl, h]
theorem goJ_more (cur : List UInt8) {c : UInt8} (r : List UInt8) (h : c ≠ 10) : goJ cur (c :: r) = goJ (cur ++ [c]) r := by
  show (if c = 10 then (match rdD cur with | none => ([], 0) | some a => (a :: (goJ [] r).1, cur.length + 1 + (goJ [] r).2)) else goJ (cur ++ [c]) r) = _
  rw [if_neg h]
theorem goJ_line : ∀ (t cur r : List UInt8), (∀ c ∈ t, c ≠ (10 : UInt8)) → goJ cur (t ++ r) = goJ (cur ++ t) r
  | [], cur, r, _ => by rw [List.append_nil]; rfl
  | c :: t, cur, r, h => by
    rw [List.cons_append, goJ_more _ _ (h c (by simp)), goJ_line t _ r fun d hd => h d (by simp [hd]), List.append_assoc]; rfl
end Go.Proofs.YtlnffpofbfigaaaGreatDoor

/-
  Numbers as texts, texts of one or two digits as numbers, and what stands between the bytes of one kind: as plain lists of bytes. No program is named.
-/
namespace Go.Proofs.YtlnffpofbfigaaaGreatDoor

/-! Numbers as texts. -/
def decF : Nat → Nat → List UInt8
  | 0, _ => []
  | f + 1, k => if k < 10 then [UInt8.ofNat (48 + k)] else decF f (k / 10) ++ [UInt8.ofNat (48 + k % 10)]
def decL (k : Nat) : List UInt8 := decF (k + 1) k
theorem decF_small {f k : Nat} (h : k < 10) : decF (f + 1) k = [UInt8.ofNat (48 + k)] := if_pos h
theorem decF_great {f k : Nat} (h : ¬ k < 10) : decF (f + 1) k = decF f (k / 10) ++ [UInt8.ofNat (48 + k % 10)] := if_neg h
theorem decF_any : ∀ (f g k : Nat), k < f → k < g → decF f k = decF g k
  | 0, _, _, h, _ => absurd h (by omega)
  | _ + 1, 0, _, _, h => absurd h (by omega)
  | f + 1, g + 1, k, hf, hg => by
    by_cases h : k < 10
    · rw [decF_small h, decF_small h]
    · rw [decF_great h, decF_great h, decF_any f g (k / 10) (by omega) (by omega)]
theorem decL_small {k : Nat} (h : k < 10) : decL k = [UInt8.ofNat (48 + k)] := decF_small h
theorem decL_great {k : Nat} (h : ¬ k < 10) : decL k = decL (k / 10) ++ [UInt8.ofNat (48 + k % 10)] := by
  unfold decL
  rw [decF_great h, decF_any k (k / 10 + 1) (k / 10) (by omega) (by omega)]
theorem decL_pos (k : Nat) : decL k ≠ [] := by
  by_cases h : k < 10
  · rw [decL_small h]; simp
  · rw [decL_great h]; simp
theorem decF_len : ∀ (f k m : Nat), k < 10 ^ m → 1 ≤ m → (decF f k).length ≤ m
  | 0, _, _, _, _ => by simp [decF]
  | f + 1, k, m, h, hm => by
    by_cases hk : k < 10
    · rw [decF_small hk]; simpa using hm
    · rw [decF_great hk]
      obtain ⟨j, rfl⟩ : ∃ j, m = j + 1 := ⟨m - 1, by omega⟩
      have h1 : k / 10 < 10 ^ j := by rw [Nat.pow_succ] at h; omega
      have h2 : 1 ≤ j := by
        cases j with
        | zero => simp at h; omega
        | succ j => omega
      have := decF_len f (k / 10) j h1 h2
      simp; omega
theorem decL_len {k m : Nat} (h : k < 10 ^ m) (hm : 1 ≤ m) : (decL k).length ≤ m := decF_len _ _ _ h hm

/-- Numbers with commas between them, or none. -/
def noneW : List UInt8 := [110, 111, 110, 101]
def comL : List Nat → List UInt8
  | [] => []
  | [x] => decL x
  | x :: y :: l => decL x ++ 44 :: comL (y :: l)
def rowT (l : List Nat) : List UInt8 := if l.isEmpty then noneW else comL l
theorem comL_cons (x y : Nat) (l : List Nat) : comL (x :: y :: l) = decL x ++ 44 :: comL (y :: l) := rfl
theorem comL_snoc : ∀ (l : List Nat) (x : Nat), l ≠ [] → comL (l ++ [x]) = comL l ++ 44 :: decL x
  | [], _, h => absurd rfl h
  | [y], x, _ => rfl
  | y :: z :: l, x, _ => by
    show decL y ++ 44 :: comL (z :: l ++ [x]) = (decL y ++ 44 :: comL (z :: l)) ++ 44 :: decL x
    rw [comL_snoc (z :: l) x (by simp)]
    simp
theorem comL_pos {l : List Nat} (h : l ≠ []) : comL l ≠ [] := by
  cases l with
  | nil => exact absurd rfl h
  | cons x l =>
    cases l with
    | nil => exact decL_pos x
    | cons y l => rw [comL_cons]; simp
theorem rowT_pos (l : List Nat) : rowT l ≠ [] := by
  unfold rowT
  cases l with
  | nil => simp [noneW]
  | cons x l => exact comL_pos (by simp)
/-! Texts of one or two digits, without leading zeros. -/
def digV (c : UInt8) : Int := (c.toNat : Int) - 48
def isD (c : UInt8) : Bool := inB (digV c) 0 9
def digI (s : List UInt8) : Int :=
  match s with
  | [c] => if isD c = true then digV c else -1
  | [c, d] => if isD c = true ∧ isD d = true ∧ c ≠ 48 then 10 * digV c + digV d else -1
  | _ => -1
theorem digI_one {c : UInt8} (h : isD c = true) : digI [c] = digV c := if_pos h
theorem digI_one_no {c : UInt8} (h : isD c = false) : digI [c] = -1 := if_neg (by rw [h]; simp)
theorem digI_two {c d : UInt8} (h : isD c = true) (k : isD d = true) (hz : c ≠ 48) : digI [c, d] = 10 * digV c + digV d := if_pos ⟨h, k, hz⟩
theorem digI_two_no {c d : UInt8} (h : isD c = false ∨ isD d = false ∨ c = 48) : digI [c, d] = -1 := by
  refine if_neg fun k => ?_
  rcases h with h | h | h
  · rw [h] at k; exact absurd k.1 (by simp)
  · rw [h] at k; exact absurd k.2.1 (by simp)
  · exact k.2.2 h
theorem digI_nil : digI [] = -1 := rfl
theorem digI_long {s : List UInt8} (h : 2 < s.length) : digI s = -1 := by
  match s, h with
  | [], h => simp at h
  | [_], h => simp at h
  | [_, _], h => simp at h
  | _ :: _ :: _ :: _, _ => rfl
theorem digI_le (s : List UInt8) : -1 ≤ digI s ∧ digI s ≤ 99 := by
  match s with
  | [] => exact ⟨by decide, by decide⟩
  | [c] =>
    by_cases h : isD c = true
    · rw [digI_one h]; have := inB_of h; omega
    · rw [digI_one_no (by simpa using h)]; omega
  | [c, d] =>
    by_cases h : isD c = true ∧ isD d = true ∧ c ≠ 48
    · rw [digI_two h.1 h.2.1 h.2.2]; have := inB_of h.1; have := inB_of h.2.1; omega
    · have e : digI [c, d] = -1 := if_neg h
      rw [e]; omega
  | _ :: _ :: _ :: _ => exact ⟨by show (-1 : Int) ≤ -1; omega, by show (-1 : Int) ≤ 99; omega⟩

/-! What stands between the bytes of one kind. -/
def cutG (p : UInt8) : List UInt8 → List UInt8 → List (List UInt8)
  | cur, [] => [cur]
  | cur, c :: r => if c = p then cur :: cutG p [] r else cutG p (cur ++ [c]) r
def cutL (p : UInt8) (s : List UInt8) : List (List UInt8) := cutG p [] s
theorem cutG_nil (p : UInt8) (cur : List UInt8) : cutG p cur [] = [cur] := rfl
theorem cutG_hit (p : UInt8) (cur r : List UInt8) : cutG p cur (p :: r) = cur :: cutG p [] r := if_pos rfl
theorem cutG_miss {p c : UInt8} (cur r : List UInt8) (h : c ≠ p) : cutG p cur (c :: r) = cutG p (cur ++ [c]) r := if_neg h
theorem cutG_line {p : UInt8} : ∀ (t cur r : List UInt8), (∀ c ∈ t, c ≠ p) → cutG p cur (t ++ r) = cutG p (cur ++ t) r
  | [], cur, r, _ => by rw [List.append_nil]; rfl
  | c :: t, cur, r, h => by
    rw [List.cons_append, cutG_miss _ _ (h c (by simp)), cutG_line t _ r fun d hd => h d (by simp [hd]), List.append_assoc]; rfl
theorem cutL_one {p : UInt8} {t : List UInt8} (h : ∀ c ∈ t, c ≠ p) : cutL p t = [t] := by
  have := cutG_line t [] [] h
  rw [List.append_nil, List.nil_append, cutG_nil] at this
  exact this
theorem cutL_more {p : UInt8} {t : List UInt8} (r : List UInt8) (h : ∀ c ∈ t, c ≠ p) : cutL p (t ++ p :: r) = t :: cutL p r := by
  unfold cutL
  rw [cutG_line t [] (p :: r) h, List.nil_append, cutG_hit]
/-- What comes behind the last cut, the words so far and the word that is under way. -/
theorem cutG_pos (p : UInt8) : ∀ (r cur : List UInt8), 1 ≤ (cutG p cur r).length
  | [], _ => Nat.le_refl _
  | c :: r, cur => by
    by_cases h : c = p
    · subst h; rw [cutG_hit]; simp
    · rw [cutG_miss _ _ h]; exact cutG_pos p r _
/-- What is cut, put together again. -/
def joinL (p : UInt8) : List (List UInt8) → List UInt8
  | [] => []
  | [t] => t
  | t :: u :: l => t ++ p :: joinL p (u :: l)
theorem joinL_cons (p : UInt8) (t : List UInt8) {l : List (List UInt8)} (h : l ≠ []) : joinL p (t :: l) = t ++ p :: joinL p l := by
  cases l with
  | nil => exact absurd rfl h
  | cons u l => rfl
theorem cutG_join (p : UInt8) : ∀ (r cur : List UInt8), joinL p (cutG p cur r) = cur ++ r
  | [], cur => by rw [cutG_nil, List.append_nil]; rfl
  | c :: r, cur => by
    by_cases h : c = p
    · subst h
      rw [cutG_hit, joinL_cons _ _ (by have := cutG_pos c r []; intro k; rw [k] at this; simp at this), cutG_join c r []]; rfl
    · rw [cutG_miss _ _ h, cutG_join p r _, List.append_assoc]; rfl
theorem cutL_join (p : UInt8) (s : List UInt8) : joinL p (cutL p s) = s := cutG_join p s []

end Go.Proofs.YtlnffpofbfigaaaGreatDoor

/-
  What the signs of chapter 2 answer, as plain numbers, and the contracts of the model's functions and of impl.NotOf. No condition.
-/
namespace Go.Proofs.YtlnffpofbfigaaaGreatDoor
open Go.RowKit

def twoB (n a b : Int) : Bool := vokB n a && vokB n b
theorem twoB_of {n a b : Int} (h : twoB n a b = true) : vokB n a = true ∧ vokB n b = true ∧ 1 ≤ n ∧ n ≤ 6 ∧ 0 ≤ a ∧ a ≤ n ∧ 0 ≤ b ∧ b ≤ n := by
  unfold twoB at h
  rw [Bool.and_eq_true] at h
  have h1 := vokB_of h.1
  have h2 := vokB_of h.2
  exact ⟨h.1, h.2, h1.1, h1.2.1, h1.2.2.1, h1.2.2.2, h2.2.2.1, h2.2.2.2⟩
theorem twoB_mk {n a b : Int} (h1 : vokB n a = true) (h2 : vokB n b = true) : twoB n a b = true := by unfold twoB; rw [h1, h2]; rfl
def notW (n a : Int) : Int := if vokB n a = true then n - a else -1
theorem notW_t {n a : Int} (h : vokB n a = true) : notW n a = n - a := if_pos h
theorem notW_f {n a : Int} (h : vokB n a = false) : notW n a = -1 := if_neg (by rw [h]; simp)

def folW (n a b : Int) : Int := if twoB n a b = true then (if n - a + b ≤ n then n - a + b else n) else -1
theorem folW_t {n a b : Int} (h : twoB n a b = true) (hc : n - a + b ≤ n) : folW n a b = n - a + b := by unfold folW; rw [if_pos h, if_pos hc]
theorem folW_e {n a b : Int} (h : twoB n a b = true) (hc : ¬ (n - a + b ≤ n)) : folW n a b = n := by unfold folW; rw [if_pos h, if_neg hc]
theorem folW_ok {n a b : Int} (h : twoB n a b = true) : 0 ≤ folW n a b ∧ folW n a b ≤ n := by
  have k := twoB_of h
  unfold folW
  rw [if_pos h]
  split <;> omega

def plusW (n a b : Int) : Int := if twoB n a b = true then (if a + b ≤ n then a + b else n) else -1
theorem plusW_t {n a b : Int} (h : twoB n a b = true) (hc : a + b ≤ n) : plusW n a b = a + b := by unfold plusW; rw [if_pos h, if_pos hc]
theorem plusW_e {n a b : Int} (h : twoB n a b = true) (hc : ¬ (a + b ≤ n)) : plusW n a b = n := by unfold plusW; rw [if_pos h, if_neg hc]
theorem plusW_ok {n a b : Int} (h : twoB n a b = true) : 0 ≤ plusW n a b ∧ plusW n a b ≤ n := by
  have k := twoB_of h
  unfold plusW
  rw [if_pos h]
  split <;> omega

def timesW (n a b : Int) : Int := if twoB n a b = true then (if 0 ≤ a + b - n then a + b - n else 0) else -1
theorem timesW_t {n a b : Int} (h : twoB n a b = true) (hc : 0 ≤ a + b - n) : timesW n a b = a + b - n := by unfold timesW; rw [if_pos h, if_pos hc]
theorem timesW_e {n a b : Int} (h : twoB n a b = true) (hc : ¬ (0 ≤ a + b - n)) : timesW n a b = 0 := by unfold timesW; rw [if_pos h, if_neg hc]
theorem timesW_ok {n a b : Int} (h : twoB n a b = true) : 0 ≤ timesW n a b ∧ timesW n a b ≤ n := by
  have k := twoB_of h
  unfold timesW
  rw [if_pos h]
  split <;> omega

def lessW (n a b : Int) : Int := if twoB n a b = true then (if a ≤ b then a else b) else -1
theorem lessW_t {n a b : Int} (h : twoB n a b = true) (hc : a ≤ b) : lessW n a b = a := by unfold lessW; rw [if_pos h, if_pos hc]
theorem lessW_e {n a b : Int} (h : twoB n a b = true) (hc : ¬ (a ≤ b)) : lessW n a b = b := by unfold lessW; rw [if_pos h, if_neg hc]
theorem lessW_ok {n a b : Int} (h : twoB n a b = true) : 0 ≤ lessW n a b ∧ lessW n a b ≤ n := by
  have k := twoB_of h
  unfold lessW
  rw [if_pos h]
  split <;> omega

def greatW (n a b : Int) : Int := if twoB n a b = true then (if a ≤ b then b else a) else -1
theorem greatW_t {n a b : Int} (h : twoB n a b = true) (hc : a ≤ b) : greatW n a b = b := by unfold greatW; rw [if_pos h, if_pos hc]
theorem greatW_e {n a b : Int} (h : twoB n a b = true) (hc : ¬ (a ≤ b)) : greatW n a b = a := by unfold greatW; rw [if_pos h, if_neg hc]
theorem greatW_ok {n a b : Int} (h : twoB n a b = true) : 0 ≤ greatW n a b ∧ greatW n a b ≤ n := by
  have k := twoB_of h
  unfold greatW
  rw [if_pos h]
  split <;> omega

theorem not_any (n a : Int) (w : World) :
    Calls Tryz.prog 193 #[.int .i64 n, .int .i64 a] w fun e w' => e = .returned (.int .i64 (notW n a)) ∧ w = w' := by
  cases h : vokB n a
  · rw [notW_f h]
    go_enter Tryz.func193, Tryz.ntmps193
    go_wp2_with (go_at_call 58; refine (vok_any _ _ _).mono ?_; rintro e w' ⟨rfl, rfl⟩)
    go_ret
    exact ⟨rfl, rfl⟩
  · have k := vokB_of h
    rw [notW_t h]
    go_enter Tryz.func193, Tryz.ntmps193
    go_wp2_with (go_at_call 58; refine (vok_any _ _ _).mono ?_; rintro e w' ⟨rfl, rfl⟩)
    go_ret
    exact ⟨rfl, rfl⟩

theorem two_any (n a b : Int) (w : World) :
    Calls Tryz.prog 115 #[.int .i64 n, .int .i64 a, .int .i64 b] w fun e w' => e = .returned (.bool (twoB n a b)) ∧ w = w' := by
  unfold twoB
  cases h1 : vokB n a <;> cases h2 : vokB n b
  all_goals
    go_enter Tryz.func115, Tryz.ntmps115
    go_wp2_with (go_at_call 116; refine (svok_any _ _ _).mono ?_; rintro e w' ⟨rfl, rfl⟩)
    go_ret
    exact ⟨rfl, rfl⟩

end Go.Proofs.YtlnffpofbfigaaaGreatDoor

/-
  The values of formulas as plain numbers, and what the promises of chapter 4 say of them. No program is walked here.
-/
namespace Go.Proofs.YtlnffpofbfigaaaGreatDoor

def Sg.app : Sg → Int → Int → Int → Int
  | .fol => folW
  | .plus => plusW
  | .times => timesW
  | .less => lessW
  | .great => greatW

def Lr.pick (a b c : Int) : Lr → Int
  | .la => a
  | .lb => b
  | .lc => c

def Tr.val (n a b c : Int) : Tr → Int
  | .lt k => k.pick a b c
  | .tru b' => if b' then n else 0
  | .neg x => notW n (x.val n a b c)
  | .bin g x y => g.app n (x.val n a b c) (y.val n a b c)

def thrB (n a b c : Int) : Bool := vokB n a && (vokB n b && vokB n c)
theorem thrB_of {n a b c : Int} (h : thrB n a b c = true) : vokB n a = true ∧ vokB n b = true ∧ vokB n c = true := by
  unfold thrB at h
  rw [Bool.and_eq_true, Bool.and_eq_true] at h
  exact h
theorem thrB_mk {n a b c : Int} (h1 : vokB n a = true) (h2 : vokB n b = true) (h3 : vokB n c = true) : thrB n a b c = true := by unfold thrB; rw [h1, h2, h3]; rfl
theorem thrB_no {n a b c : Int} (h : thrB n a b c = false) : vokB n a = false ∨ (vokB n a = true ∧ vokB n b = false) ∨ (vokB n a = true ∧ vokB n b = true ∧ vokB n c = false) := by
  cases h1 : vokB n a
  · exact .inl rfl
  · cases h2 : vokB n b
    · exact .inr (.inl ⟨rfl, rfl⟩)
    · cases h3 : vokB n c
      · exact .inr (.inr ⟨rfl, rfl, rfl⟩)
      · rw [thrB_mk h1 h2 h3] at h; cases h

theorem app_ok (g : Sg) {n x y : Int} (hx : vokB n x = true) (hy : vokB n y = true) : vokB n (g.app n x y) = true := by
  have h := twoB_mk hx hy
  have k := vokB_of hx
  cases g
  · have := folW_ok h; exact vokB_t (by show _ ∧ _ ∧ 0 ≤ folW n x y ∧ folW n x y ≤ n; omega)
  · have := plusW_ok h; exact vokB_t (by show _ ∧ _ ∧ 0 ≤ plusW n x y ∧ plusW n x y ≤ n; omega)
  · have := timesW_ok h; exact vokB_t (by show _ ∧ _ ∧ 0 ≤ timesW n x y ∧ timesW n x y ≤ n; omega)
  · have := lessW_ok h; exact vokB_t (by show _ ∧ _ ∧ 0 ≤ lessW n x y ∧ lessW n x y ≤ n; omega)
  · have := greatW_ok h; exact vokB_t (by show _ ∧ _ ∧ 0 ≤ greatW n x y ∧ greatW n x y ≤ n; omega)

theorem val_ok {n a b c : Int} (h : thrB n a b c = true) : ∀ t : Tr, vokB n (t.val n a b c) = true := by
  obtain ⟨ha, hb, hc⟩ := thrB_of h
  have k := vokB_of ha
  intro t
  induction t with
  | lt x => cases x <;> assumption
  | tru x =>
    cases x
    · exact vokB_t (by show _ ∧ _ ∧ 0 ≤ (0 : Int) ∧ (0 : Int) ≤ n; omega)
    · exact vokB_t (by show _ ∧ _ ∧ 0 ≤ n ∧ n ≤ n; omega)
  | neg x ih =>
    have kk := vokB_of ih
    show vokB n (notW n (x.val n a b c)) = true
    rw [notW_t ih]
    exact vokB_t (by omega)
  | bin g x y ihx ihy => exact app_ok g ihx ihy

theorem fol_raw {n x y : Int} (hx : vokB n x = true) (hy : vokB n y = true) : folW n x y = if n - x + y ≤ n then n - x + y else n := by unfold folW; rw [if_pos (twoB_mk hx hy)]
theorem plus_raw {n x y : Int} (hx : vokB n x = true) (hy : vokB n y = true) : plusW n x y = if x + y ≤ n then x + y else n := by unfold plusW; rw [if_pos (twoB_mk hx hy)]
theorem times_raw {n x y : Int} (hx : vokB n x = true) (hy : vokB n y = true) : timesW n x y = if 0 ≤ x + y - n then x + y - n else 0 := by unfold timesW; rw [if_pos (twoB_mk hx hy)]
theorem less_raw {n x y : Int} (hx : vokB n x = true) (hy : vokB n y = true) : lessW n x y = if x ≤ y then x else y := by unfold lessW; rw [if_pos (twoB_mk hx hy)]
theorem great_raw {n x y : Int} (hx : vokB n x = true) (hy : vokB n y = true) : greatW n x y = if x ≤ y then y else x := by unfold greatW; rw [if_pos (twoB_mk hx hy)]
/-- ValueAt, as a plain number. -/
def valI (n : Int) (l : List UInt8) (a b c : Int) : Int :=
  match fOf l with
  | none => -1
  | some t => if thrB n a b c = true then t.val n a b c else -1
theorem valI_t {n a b c : Int} {l : List UInt8} {t : Tr} (h : fOf l = some t) (k : thrB n a b c = true) : valI n l a b c = t.val n a b c := by unfold valI; rw [h]; exact if_pos k
theorem valI_n {n a b c : Int} {l : List UInt8} (h : fOf l = none) : valI n l a b c = -1 := by unfold valI; rw [h]
theorem valI_f {n a b c : Int} {l : List UInt8} (k : thrB n a b c = false) : valI n l a b c = -1 := by
  unfold valI
  split
  · rfl
  · rw [k]; rfl

end Go.Proofs.YtlnffpofbfigaaaGreatDoor

/-
  What chapter 5 says, as plain numbers: the triples of values by their place in the order by a, by b, by c; the least value, whether a formula always holds, the first place against it, whether two are the same. No program is named.
-/
namespace Go.Proofs.YtlnffpofbfigaaaGreatDoor

def tA (n k : Nat) : Nat := k / (n + 1) / (n + 1) % (n + 1)
def tB (n k : Nat) : Nat := k / (n + 1) % (n + 1)
def tC (n k : Nat) : Nat := k % (n + 1)
def cub (n : Nat) : Nat := (n + 1) * (n + 1) * (n + 1)
def idx (n a b c : Nat) : Nat := (a * (n + 1) + b) * (n + 1) + c
def atK (n : Nat) (t : Tr) (k : Nat) : Int := t.val n (tA n k) (tB n k) (tC n k)

theorem tA_le (n k : Nat) : tA n k ≤ n := by have := Nat.mod_lt (k / (n + 1) / (n + 1)) (show 0 < n + 1 by omega); unfold tA; omega
theorem tB_le (n k : Nat) : tB n k ≤ n := by have := Nat.mod_lt (k / (n + 1)) (show 0 < n + 1 by omega); unfold tB; omega
theorem tC_le (n k : Nat) : tC n k ≤ n := by have := Nat.mod_lt k (show 0 < n + 1 by omega); unfold tC; omega
theorem thr_nat {n a b c : Nat} (h : 1 ≤ n ∧ n ≤ 6) (ha : a ≤ n) (hb : b ≤ n) (hc : c ≤ n) : thrB n a b c = true :=
  thrB_mk (vokB_t (by omega)) (vokB_t (by omega)) (vokB_t (by omega))
theorem tri_ok {n : Nat} (h : 1 ≤ n ∧ n ≤ 6) (k : Nat) : thrB n (tA n k) (tB n k) (tC n k) = true := thr_nat h (tA_le n k) (tB_le n k) (tC_le n k)
theorem atK_ok {n : Nat} (h : 1 ≤ n ∧ n ≤ 6) (t : Tr) (k : Nat) : vokB n (atK n t k) = true := val_ok (tri_ok h k) t

theorem div_step {m x c : Nat} (hm : 0 < m) (hc : c < m) : (x * m + c) / m = x := by
  rw [Nat.mul_comm x m, Nat.mul_add_div hm, Nat.div_eq_of_lt hc]; rfl
theorem mod_step {m x c : Nat} (hc : c < m) : (x * m + c) % m = c := by
  rw [Nat.mul_comm x m, Nat.mul_add_mod, Nat.mod_eq_of_lt hc]
theorem idx_A {n a b c : Nat} (ha : a ≤ n) (hb : b ≤ n) (hc : c ≤ n) : tA n (idx n a b c) = a := by
  unfold tA idx
  rw [div_step (by omega) (by omega), div_step (by omega) (by omega), Nat.mod_eq_of_lt (by omega)]
theorem idx_B {n a b c : Nat} (hb : b ≤ n) (hc : c ≤ n) : tB n (idx n a b c) = b := by
  unfold tB idx
  rw [div_step (by omega) (by omega), mod_step (by omega)]
theorem idx_C {n a b c : Nat} (hc : c ≤ n) : tC n (idx n a b c) = c := by
  unfold tC idx
  rw [mod_step (by omega)]
theorem idx_lt {n a b c : Nat} (ha : a ≤ n) (hb : b ≤ n) (hc : c ≤ n) : idx n a b c < cub n := by
  unfold idx cub
  have h1 : (a + 1) * (n + 1) ≤ (n + 1) * (n + 1) := Nat.mul_le_mul_right _ (by omega)
  have h2 : (a * (n + 1) + b + 1) * (n + 1) ≤ (n + 1) * (n + 1) * (n + 1) := Nat.mul_le_mul_right _ (by rw [Nat.add_mul] at h1; omega)
  rw [Nat.add_mul] at h2
  omega
theorem tA_eq {n k : Nat} (h : k < cub n) : tA n k = k / (n + 1) / (n + 1) := by
  unfold tA
  refine Nat.mod_eq_of_lt ?_
  rw [Nat.div_lt_iff_lt_mul (by omega), Nat.div_lt_iff_lt_mul (by omega)]
  exact h
theorem idx_c (n a b c : Nat) : idx n a b (c + 1) = idx n a b c + 1 := rfl
theorem idx_b (n a b : Nat) : idx n a (b + 1) 0 = idx n a b (n + 1) := by
  unfold idx
  rw [← Nat.add_assoc (a * (n + 1)) b 1, Nat.add_mul _ 1]
  omega
theorem idx_a (n a : Nat) : idx n (a + 1) 0 0 = idx n a (n + 1) 0 := by
  unfold idx
  rw [Nat.add_mul a 1, Nat.one_mul]; rfl
theorem idx_0 (n : Nat) : idx n 0 0 0 = 0 := by unfold idx; simp
theorem idx_end (n : Nat) : idx n (n + 1) 0 0 = cub n := by unfold idx cub; rfl
theorem cub_le {n : Nat} (h : n ≤ 6) : cub n ≤ 343 := by
  have h1 : (n + 1) * (n + 1) ≤ 7 * 7 := Nat.mul_le_mul (by omega) (by omega)
  exact Nat.mul_le_mul h1 (show n + 1 ≤ 7 by omega)

/-- The least value over the first places. -/
def lowU (n : Nat) (t : Tr) : Nat → Int
  | 0 => n
  | k + 1 => if lowU n t k ≤ atK n t k then lowU n t k else atK n t k
theorem lowU_s1 {n : Nat} {t : Tr} {k : Nat} (h : lowU n t k ≤ atK n t k) : lowU n t (k + 1) = lowU n t k := if_pos h
theorem lowU_s2 {n : Nat} {t : Tr} {k : Nat} (h : ¬ lowU n t k ≤ atK n t k) : lowU n t (k + 1) = atK n t k := if_neg h
theorem lowU_le (n : Nat) (t : Tr) : ∀ K k, k < K → lowU n t K ≤ atK n t k := by
  intro K
  induction K with
  | zero => intro k hk; omega
  | succ K ih =>
    intro k hk
    by_cases h : lowU n t K ≤ atK n t K
    · rw [lowU_s1 h]
      by_cases e : k = K
      · rw [e]; exact h
      · exact ih k (by omega)
    · rw [lowU_s2 h]
      by_cases e : k = K
      · rw [e]; exact Int.le_refl _
      · have := ih k (by omega); omega
theorem lowU_some (n : Nat) (t : Tr) : ∀ K, lowU n t K = n ∨ ∃ k, k < K ∧ lowU n t K = atK n t k := by
  intro K
  induction K with
  | zero => exact .inl rfl
  | succ K ih =>
    by_cases h : lowU n t K ≤ atK n t K
    · rw [lowU_s1 h]
      rcases ih with h1 | ⟨k, hk, h1⟩
      · exact .inl h1
      · exact .inr ⟨k, by omega, h1⟩
    · rw [lowU_s2 h]; exact .inr ⟨K, by omega, rfl⟩
theorem lowU_ok {n : Nat} (h : 1 ≤ n ∧ n ≤ 6) (t : Tr) (K : Nat) : vokB n (lowU n t K) = true := by
  rcases lowU_some n t K with e | ⟨k, _, e⟩
  · rw [e]; exact vokB_t (by omega)
  · rw [e]; exact atK_ok h t k

/-- Whether it is true at all places. -/
def alwT (n : Nat) (t : Tr) : Bool := (List.range (cub n)).all fun k => atK n t k == (n : Int)
theorem alwT_of {n : Nat} {t : Tr} (h : alwT n t = true) {k : Nat} (hk : k < cub n) : atK n t k = n := by
  unfold alwT at h
  rw [List.all_eq_true] at h
  exact eq_of_beq (h k (List.mem_range.2 hk))
theorem alwT_mk {n : Nat} {t : Tr} (h : ∀ k, k < cub n → atK n t k = n) : alwT n t = true := by
  unfold alwT
  rw [List.all_eq_true]
  intro k hk
  rw [h k (List.mem_range.1 hk)]
  exact beq_self_eq_true _
theorem atK_le {n : Nat} (h : 1 ≤ n ∧ n ≤ 6) (t : Tr) (k : Nat) : 0 ≤ atK n t k ∧ atK n t k ≤ n := by have := vokB_of (atK_ok h t k); omega
theorem low_alw {n : Nat} (hn : 1 ≤ n ∧ n ≤ 6) (t : Tr) : (lowU n t (cub n) == (n : Int)) = alwT n t := by
  cases e : alwT n t
  · refine beq_eq_false_iff_ne.2 fun h => ?_
    have : alwT n t = true := alwT_mk fun k hk => by
      have h1 := lowU_le n t (cub n) k hk
      have h2 := atK_le hn t k
      omega
    rw [e] at this; cases this
  · rcases lowU_some n t (cub n) with h | ⟨k, hk, h⟩
    · rw [h]; exact beq_self_eq_true _
    · rw [h, alwT_of e hk]; exact beq_self_eq_true _

/-- The first place at which it is not true. -/
def agN (n : Nat) (t : Tr) : Option Nat := (List.range (cub n)).find? fun k => !(atK n t k == (n : Int))
theorem agN_at {n : Nat} {t : Tr} {k : Nat} (hk : k < cub n) (h : ∀ j, j < k → atK n t j = n) (h' : atK n t k ≠ n) : agN n t = some k := by
  unfold agN
  rw [List.find?_range_eq_some]
  refine ⟨?_, List.mem_range.2 hk, fun j hj => ?_⟩
  · rw [beq_eq_false_iff_ne.2 h']; rfl
  · rw [h j hj]; simp
theorem agN_no {n : Nat} {t : Tr} (h : ∀ j, j < cub n → atK n t j = n) : agN n t = none := by
  unfold agN
  rw [List.find?_eq_none]
  intro j hj
  rw [h j (List.mem_range.1 hj)]
  simp
theorem agN_alw (n : Nat) (t : Tr) : (agN n t).isNone = alwT n t := by
  cases e : alwT n t
  · cases h : agN n t with
    | some k => rfl
    | none =>
      unfold agN at h
      rw [List.find?_eq_none] at h
      have : alwT n t = true := alwT_mk fun k hk => by
        have := h k (List.mem_range.2 hk)
        simpa using this
      rw [e] at this; cases this
  · rw [agN_no fun j hj => alwT_of e hj]; rfl
/-! What the functions answer. -/
def leastI (n : Int) (l : List UInt8) : Int :=
  match fOf l with
  | none => -1
  | some t => if inB n 1 6 = true then lowU n.toNat t (cub n.toNat) else -1
def alwB (n : Int) (l : List UInt8) : Bool :=
  match fOf l with
  | none => false
  | some t => inB n 1 6 && alwT n.toNat t
def agI (n : Int) (l : List UInt8) : Option Nat :=
  match fOf l with
  | none => none
  | some t => if inB n 1 6 = true then agN n.toNat t else none
def chI (l : List UInt8) : List Int := ([1, 2, 3, 4, 5, 6] : List Int).filter fun n => alwB n l

theorem leastI_n {n : Int} {l : List UInt8} (h : fOf l = none) : leastI n l = -1 := by unfold leastI; rw [h]
theorem leastI_o {n : Int} {l : List UInt8} (h : inB n 1 6 = false) : leastI n l = -1 := by
  unfold leastI
  split
  · rfl
  · rw [h]; rfl
theorem leastI_t {n : Nat} {l : List UInt8} {t : Tr} (h : fOf l = some t) (hn : inB n 1 6 = true) : leastI n l = lowU n t (cub n) := by
  unfold leastI; rw [h]; simp only [hn, if_true, Int.toNat_natCast]
theorem alwB_n {n : Int} {l : List UInt8} (h : fOf l = none) : alwB n l = false := by unfold alwB; rw [h]
theorem alwB_o {n : Int} {l : List UInt8} (h : inB n 1 6 = false) : alwB n l = false := by
  unfold alwB
  split
  · rfl
  · rw [h]; rfl
theorem alwB_t {n : Nat} {l : List UInt8} {t : Tr} (h : fOf l = some t) (hn : inB n 1 6 = true) : alwB n l = alwT n t := by
  unfold alwB; rw [h]; simp only [hn, Bool.true_and, Int.toNat_natCast]
theorem agI_n {n : Int} {l : List UInt8} (h : fOf l = none) : agI n l = none := by unfold agI; rw [h]
theorem agI_o {n : Int} {l : List UInt8} (h : inB n 1 6 = false) : agI n l = none := by
  unfold agI
  split
  · rfl
  · rw [h]; rfl
theorem agI_t {n : Nat} {l : List UInt8} {t : Tr} (h : fOf l = some t) (hn : inB n 1 6 = true) : agI n l = agN n t := by
  unfold agI; rw [h]; simp only [hn, if_true, Int.toNat_natCast]
end Go.Proofs.YtlnffpofbfigaaaGreatDoor

/-
  What the promises of chapter 5 ask of the plain numbers. No program is named.
-/
namespace Go.Proofs.YtlnffpofbfigaaaGreatDoor

theorem nat_of {n : Int} (h : inB n 1 6 = true) : ∃ N : Nat, n = N ∧ 1 ≤ N ∧ N ≤ 6 := by
  have := inB_of h
  exact ⟨n.toNat, by omega, by omega, by omega⟩
theorem inB_nat {N : Nat} (h : 1 ≤ N ∧ N ≤ 6) : inB (N : Int) 1 6 = true := inB_t (by omega)

/-! P21 -/
/-! P22 -/
/-! P24 -/
/-! P25, P26 -/
end Go.Proofs.YtlnffpofbfigaaaGreatDoor

/-
  How far values, rows and formulas are apart, as plain numbers. No program is named.
-/
namespace Go.Proofs.YtlnffpofbfigaaaGreatDoor

def gap (a b : Int) : Int := if a ≤ b then b - a else a - b
theorem gap_sym (a b : Int) : gap a b = gap b a := by unfold gap; split <;> split <;> omega
theorem gap_zero {a b : Int} : gap a b = 0 ↔ a = b := by unfold gap; split <;> omega
theorem gap_self (a : Int) : gap a a = 0 := gap_zero.2 rfl
def farW (n a b : Int) : Int := if twoB n a b = true then gap a b else -1
theorem farW_t {n a b : Int} (h : twoB n a b = true) : farW n a b = gap a b := if_pos h
theorem farW_f {n a b : Int} (h : twoB n a b = false) : farW n a b = -1 := by unfold farW; rw [h]; rfl
/-- Signs bring values no farther apart. -/
theorem app_gap (g : Sg) {n x y x' y' : Int} (hx : vokB n x = true) (hy : vokB n y = true) (hx' : vokB n x' = true) (hy' : vokB n y' = true) : gap (g.app n x y) (g.app n x' y') ≤ gap x x' + gap y y' := by
  have k1 := vokB_of hx
  have k2 := vokB_of hy
  have k3 := vokB_of hx'
  have k4 := vokB_of hy'
  cases g
  · show gap (folW n x y) (folW n x' y') ≤ _
    rw [fol_raw hx hy, fol_raw hx' hy']
    unfold gap
    repeat' split <;> omega
  · show gap (plusW n x y) (plusW n x' y') ≤ _
    rw [plus_raw hx hy, plus_raw hx' hy']
    unfold gap
    repeat' split <;> omega
  · show gap (timesW n x y) (timesW n x' y') ≤ _
    rw [times_raw hx hy, times_raw hx' hy']
    unfold gap
    repeat' split <;> omega
  · show gap (lessW n x y) (lessW n x' y') ≤ _
    rw [less_raw hx hy, less_raw hx' hy']
    unfold gap
    repeat' split <;> omega
  · show gap (greatW n x y) (greatW n x' y') ≤ _
    rw [great_raw hx hy, great_raw hx' hy']
    unfold gap
    repeat' split <;> omega
theorem not_gap {n x x' : Int} (hx : vokB n x = true) (hx' : vokB n x' = true) : gap (notW n x) (notW n x') = gap x x' := by
  rw [notW_t hx, notW_t hx']
  unfold gap
  split <;> split <;> omega
/-- Formulas move at most as often as letters stand in them. -/
theorem val_gap {n a a' b c : Int} (h : thrB n a b c = true) (h' : thrB n a' b c = true) (hd : gap a a' ≤ 1) : ∀ t : Tr, gap (t.val n a b c) (t.val n a' b c) ≤ (t.ls : Int) := by
  intro t
  induction t with
  | lt x =>
    cases x
    · exact hd
    · show gap b b ≤ _; rw [gap_self]; exact Int.natCast_nonneg _
    · show gap c c ≤ _; rw [gap_self]; exact Int.natCast_nonneg _
  | tru x => show gap _ _ ≤ _; exact Int.le_of_eq (gap_self _)
  | neg x ih =>
    show gap (notW n _) (notW n _) ≤ ((x.ls : Nat) : Int)
    rw [not_gap (val_ok h x) (val_ok h' x)]
    exact ih
  | bin g x y ihx ihy =>
    have := app_gap g (val_ok h x) (val_ok h y) (val_ok h' x) (val_ok h' y)
    show gap (g.app n _ _) (g.app n _ _) ≤ (((x.ls + y.ls : Nat)) : Int)
    omega
/-! Rows. -/

/-! How far a formula moves. -/

/-- The greatest way so far, over the places ahead of k. -/
def movU (n : Nat) (t : Tr) : Nat → Int
  | 0 => 0
  | k + 1 => if k / (n + 1) / (n + 1) = 0 then movU n t k else if gap (t.val n (tA n k) (tB n k) (tC n k)) (t.val n ((tA n k : Int) - 1) (tB n k) (tC n k)) ≤ movU n t k then movU n t k else gap (t.val n (tA n k) (tB n k) (tC n k)) (t.val n ((tA n k : Int) - 1) (tB n k) (tC n k))
theorem movU_pos (n : Nat) (t : Tr) : ∀ k, 0 ≤ movU n t k := by
  intro k
  induction k with
  | zero => exact Int.le_refl _
  | succ k ih => unfold movU; repeat' split <;> omega
theorem movU_le {n : Nat} (hn : 1 ≤ n ∧ n ≤ 6) (t : Tr) : ∀ k, k ≤ cub n → movU n t k ≤ (t.ls : Int) := by
  intro k
  induction k with
  | zero => intro _; exact Int.natCast_nonneg _
  | succ k ih =>
    intro hk
    have h1 := ih (by omega)
    unfold movU
    split
    · exact h1
    · rename_i hz
      split
      · exact h1
      · have hA : tA n k = k / (n + 1) / (n + 1) := tA_eq (by omega)
        have ht := tri_ok hn k
        obtain ⟨q1, q2, q3⟩ := thrB_of ht
        have k1 := vokB_of q1
        have ht' : thrB n ((tA n k : Int) - 1) (tB n k) (tC n k) = true := thrB_mk (vokB_t (by omega)) q2 q3
        exact val_gap ht ht' (by unfold gap; split <;> omega) t
end Go.Proofs.YtlnffpofbfigaaaGreatDoor

/-
  Sets of values of a chain as numbers: closed sets, what a set makes, chains within, their steps. No program is named.
-/
namespace Go.Proofs.YtlnffpofbfigaaaGreatDoor

end Go.Proofs.YtlnffpofbfigaaaGreatDoor

/-
  A pair of brackets around two texts is a formula only if both are: so a deed may be tried without asking first. No program is named.
-/
namespace Go.Proofs.YtlnffpofbfigaaaGreatDoor

/-- How many brackets are opened more than closed. -/
def dp : List UInt8 → Int
  | [] => 0
  | c :: l => (if c = 40 then 1 else if c = 41 then -1 else 0) + dp l
theorem dp_app : ∀ l m : List UInt8, dp (l ++ m) = dp l + dp m
  | [], m => by simp [dp]
  | c :: l, m => by
    show (if c = 40 then 1 else if c = 41 then -1 else 0) + dp (l ++ m) = (if c = 40 then 1 else if c = 41 then -1 else 0) + dp l + dp m
    rw [dp_app l m, Int.add_assoc]
theorem dp_sg (g : Sg) (l : List UInt8) : dp (g.byte :: l) = dp l := by cases g <;> simp [dp, Sg.byte]
theorem dp_end : dp [41] = -1 := rfl
theorem dp_txt : ∀ t : Tr, dp t.txt = 0
  | .lt k => by cases k <;> rfl
  | .tru b => by cases b <;> rfl
  | .neg x => by
    show (if (33 : UInt8) = 40 then 1 else if (33 : UInt8) = 41 then -1 else 0) + dp x.txt = 0
    rw [dp_txt x]; rfl
  | .bin g x y => by
    show (if (40 : UInt8) = 40 then 1 else if (40 : UInt8) = 41 then -1 else 0) + dp (x.txt ++ g.byte :: (y.txt ++ [41])) = 0
    rw [dp_app, dp_sg, dp_app, dp_txt x, dp_txt y, dp_end]; rfl
theorem sg_no (g : Sg) : g.byte ≠ 40 ∧ g.byte ≠ 41 ∧ g.byte ≠ 33 := by cases g <;> decide
/-- Behind a sign within a formula more brackets are closed than opened. -/
theorem dp_cut : ∀ (t : Tr) (g : Sg) (u v : List UInt8), t.txt = u ++ g.byte :: v → dp v < 0
  | .lt k, g, u, v, h => by
    cases u with
    | nil => cases k <;> cases g <;> simp [Tr.txt, Lr.byte, Sg.byte] at h
    | cons c u => simp [Tr.txt] at h
  | .tru b, g, u, v, h => by
    cases u with
    | nil => cases b <;> cases g <;> simp [Tr.txt, Sg.byte] at h
    | cons c u => simp [Tr.txt] at h
  | .neg x, g, u, v, h => by
    cases u with
    | nil =>
      have : (33 : UInt8) = g.byte := (List.cons.inj h).1
      exact absurd this.symm (sg_no g).2.2
    | cons c u => exact dp_cut x g u v (List.cons.inj h).2
  | .bin o x y, g, u, v, h => by
    cases u with
    | nil =>
      have : (40 : UInt8) = g.byte := (List.cons.inj h).1
      exact absurd this.symm (sg_no g).1
    | cons c u =>
      have h2 : x.txt ++ o.byte :: (y.txt ++ [41]) = u ++ g.byte :: v := (List.cons.inj h).2
      rcases List.append_eq_append_iff.1 h2 with ⟨a, e1, e2⟩ | ⟨a, e1, e2⟩
      · cases a with
        | nil =>
          obtain ⟨_, e3⟩ := List.cons.inj e2
          rw [← e3, dp_app, dp_txt y, dp_end]; decide
        | cons d a =>
          obtain ⟨_, e3⟩ := List.cons.inj e2
          rcases List.append_eq_append_iff.1 e3 with ⟨b, f1, f2⟩ | ⟨b, f1, f2⟩
          · cases b with
            | nil => exact absurd (List.cons.inj f2).1.symm (sg_no g).2.1
            | cons _ b => have := (List.cons.inj f2).2; simp at this
          · cases b with
            | nil => exact absurd (List.cons.inj f2).1 (sg_no g).2.1
            | cons z b =>
              obtain ⟨f3, f4⟩ := List.cons.inj f2
              subst f3
              have := dp_cut y g a b f1
              rw [f4]; show dp (b ++ [41]) < 0
              rw [dp_app, dp_end]; omega
      · cases a with
        | nil =>
          obtain ⟨_, e3⟩ := List.cons.inj e2
          rw [e3, dp_app, dp_txt y, dp_end]; decide
        | cons z a =>
          obtain ⟨f3, f4⟩ := List.cons.inj e2
          subst f3
          have := dp_cut x g u a e1
          rw [f4]; show dp (a ++ o.byte :: (y.txt ++ [41])) < 0
          rw [dp_app, dp_sg, dp_app, dp_txt y, dp_end]; omega

theorem isF_bin {l : List UInt8} (h : isF (40 :: (l ++ [41])) = true) : ∃ g x y, l = Tr.txt x ++ Sg.byte g :: Tr.txt y ∧ (Tr.txt x).length + (Tr.txt y).length ≤ 57 := by
  obtain ⟨t, ht⟩ := isF_of h
  obtain ⟨e, hl⟩ := fOf_some ht
  cases t with
  | lt k => cases k <;> simp [Tr.txt, Lr.byte] at e
  | tru b => cases b <;> simp [Tr.txt] at e
  | neg x => simp [Tr.txt] at e
  | bin g x y =>
    have e2 : l ++ [41] = (x.txt ++ g.byte :: y.txt) ++ [41] := by
      have := (List.cons.inj e).2
      rw [this]; simp
    have e3 := List.append_cancel_right e2
    refine ⟨g, x, y, e3, ?_⟩
    simp [Tr.txt] at hl
    omega
theorem isF_txt {t : Tr} (h : t.txt.length ≤ 60) : isF t.txt = true := isF_t (fOf_txt h)
/-- The first one a formula, so is the second one; the second one a formula, so is the first one. -/
theorem isF_right {x t : List UInt8} {c : UInt8} (hx : isF x = true) (h : isF (40 :: (x ++ c :: (t ++ [41]))) = true) : isF t = true := by
  obtain ⟨u, hu⟩ := isF_of hx
  obtain ⟨eu, lu⟩ := fOf_some hu
  obtain ⟨g, a, b, e, hl⟩ := isF_bin (l := x ++ c :: t) (by rw [List.append_assoc]; exact h)
  have p1 := prs_full u (u.txt.length + a.txt.length) (c :: t) (by omega)
  have p2 := prs_full a (u.txt.length + a.txt.length) (g.byte :: b.txt) (by omega)
  rw [← eu, e] at p1
  rw [eu] at p1
  rw [p1] at p2
  simp only [Option.some.injEq, Prod.mk.injEq, List.cons.injEq] at p2
  rw [p2.2.2]
  exact isF_txt (by omega)
theorem isF_left {x t : List UInt8} (hx : isF x = true) (h : isF (40 :: (t ++ 62 :: (x ++ [41]))) = true) : isF t = true := by
  obtain ⟨u, hu⟩ := isF_of hx
  obtain ⟨eu, lu⟩ := fOf_some hu
  obtain ⟨g, a, b, e, hl⟩ := isF_bin (l := t ++ 62 :: x) (by rw [List.append_assoc]; exact h)
  rw [eu] at e
  rcases List.append_eq_append_iff.1 e with ⟨c, e1, e2⟩ | ⟨c, e1, e2⟩
  · cases c with
    | nil => rw [List.append_nil] at e1; rw [← e1]; exact isF_txt (by omega)
    | cons d c =>
      obtain ⟨e3, e4⟩ := List.cons.inj e2
      have := dp_cut u g c b.txt e4
      rw [dp_txt] at this
      omega
  · cases c with
    | nil => rw [List.append_nil] at e1; rw [e1]; exact isF_txt (by omega)
    | cons d c =>
      obtain ⟨e3, e4⟩ := List.cons.inj e2
      have := dp_cut b .fol c u.txt (by rw [e4]; rfl)
      rw [dp_txt] at this
      omega

/-- The names that a deed may bear, and chain and formula after it. -/
def namesB (a : Dd) : Bool :=
  if a.1 = 0 then a.2.2.isEmpty
  else if a.1 = 1 ∨ a.1 = 3 ∨ a.1 = 4 then decide (a.2.1 = 0)
  else decide (a.2.1 = 0) && a.2.2.isEmpty
def aft (x : Ld) (a : Dd) : Ld :=
  if a.1 = 0 then (a.2.1, x.2)
  else if a.1 = 1 then (x.1, a.2.2)
  else if a.1 = 2 then (x.1, 33 :: x.2)
  else if a.1 = 3 then (x.1, 40 :: (x.2 ++ 42 :: (a.2.2 ++ [41])))
  else if a.1 = 4 then (x.1, 40 :: (a.2.2 ++ 62 :: (x.2 ++ [41])))
  else if a.1 = 5 then (x.1, basT x.2)
  else x
theorem names_no {x : Ld} {a : Dd} (h : namesB a = false) : a ≠ (6, 0, []) ∧ newD x a = none := by
  obtain ⟨k, n, t⟩ := a
  refine ⟨fun e => ?_, newD_raw ?_⟩
  · rw [e] at h; cases h
  · unfold namesB at h
    unfold rawD
    simp only [] at h ⊢
    by_cases k0 : k = 0
    · subst k0
      have ht : t ≠ [] := by intro e; subst e; simp at h
      simp [ht]
    · rw [if_neg k0] at h
      by_cases k1 : k = 1 ∨ k = 3 ∨ k = 4
      · rw [if_pos k1] at h
        have hn : n ≠ 0 := of_decide_eq_false h
        rcases k1 with rfl | rfl | rfl <;> simp [hn]
      · rw [if_neg k1] at h
        have hn : ¬ (n = 0 ∧ t = []) := by
          intro e
          rw [e.1, e.2] at h
          simp at h
        have c2 : ¬ ((k, n, t) : Dd) = (2, 0, []) := by intro e; simp at e; exact hn e.2
        have c5 : ¬ ((k, n, t) : Dd) = (5, 0, []) := by intro e; simp at e; exact hn e.2
        have n1 : k ≠ 1 := fun e => k1 (.inl e)
        have n3 : k ≠ 3 := fun e => k1 (.inr (.inl e))
        have n4 : k ≠ 4 := fun e => k1 (.inr (.inr e))
        rw [if_neg (by simp [k0]), if_neg (by simp [n1]), if_neg c2, if_neg (by simp [n3]), if_neg (by simp [n4]), if_neg (by simp [c5])]
theorem ldB_no {n : Int} {s : List UInt8} (h : isF s = false) : ldB (n, s) = false := by unfold ldB; rw [h, Bool.and_false]
theorem isF_f' {s : List UInt8} (h : ¬ isF s = true) : isF s = false := by simpa using h
theorem bas_none {s : List UInt8} (h : ¬ basB s = true) : isF (basT s) = false := by
  rw [basT_no (by simpa using h)]; rfl
theorem aft_new {x : Ld} {a : Dd} (hx : ldB x = true) (h : namesB a = true) (h6 : a.1 ≠ 6) : newD x a = if ldB (aft x a) = true ∧ aft x a ≠ x then some (aft x a) else none := by
  obtain ⟨hx1, hx2⟩ := ldB_of hx
  have out : ∀ {y : Ld}, rawD x a = some y → aft x a = y → newD x a = if ldB (aft x a) = true ∧ aft x a ≠ x then some (aft x a) else none := by
    intro y h1 h2
    unfold newD
    rw [h1, h2]
  have nil : ∀ {y : Ld}, rawD x a = none → aft x a = y → (ldB y = false ∨ y = x) → newD x a = if ldB (aft x a) = true ∧ aft x a ≠ x then some (aft x a) else none := by
    intro y h1 h2 h3
    rw [newD_raw h1, h2]
    symm
    refine if_neg fun hh => ?_
    rcases h3 with h3 | h3
    · rw [h3] at hh; exact absurd hh.1 (by simp)
    · exact hh.2 h3
  obtain ⟨k, n, t⟩ := a
  unfold namesB at h
  simp only [] at h h6
  by_cases k0 : k = 0
  · subst k0
    have ht : t = [] := by simpa using h
    subst ht
    exact out (y := (n, x.2)) (by simp [rawD]) (by simp [aft])
  rw [if_neg k0] at h
  by_cases k1 : k = 1
  · subst k1
    have hn : n = 0 := by simpa using h
    subst hn
    exact out (y := (x.1, t)) (by simp [rawD]) (by simp [aft])
  by_cases k3 : k = 3
  · subst k3
    have hn : n = 0 := by simpa using h
    subst hn
    by_cases ht : isF t = true
    · exact out (y := (x.1, 40 :: (x.2 ++ 42 :: (t ++ [41])))) (by simp [rawD, ht]) (by simp [aft])
    · refine nil (y := (x.1, 40 :: (x.2 ++ 42 :: (t ++ [41])))) (by simp [rawD, ht]) (by simp [aft]) (.inl (ldB_no (isF_f' fun hh => ht (isF_right hx2 hh))))
  by_cases k4 : k = 4
  · subst k4
    have hn : n = 0 := by simpa using h
    subst hn
    by_cases ht : isF t = true
    · exact out (y := (x.1, 40 :: (t ++ 62 :: (x.2 ++ [41])))) (by simp [rawD, ht]) (by simp [aft])
    · refine nil (y := (x.1, 40 :: (t ++ 62 :: (x.2 ++ [41])))) (by simp [rawD, ht]) (by simp [aft]) (.inl (ldB_no (isF_f' fun hh => ht (isF_left hx2 hh))))
  rw [if_neg (by simp [k1, k3, k4]), Bool.and_eq_true, decide_eq_true_eq, List.isEmpty_iff] at h
  obtain ⟨rfl, rfl⟩ := h
  by_cases k2 : k = 2
  · subst k2
    exact out (y := (x.1, 33 :: x.2)) (by simp [rawD]) (by simp [aft])
  by_cases k5 : k = 5
  · subst k5
    by_cases hb : basB x.2 = true
    · exact out (y := (x.1, basT x.2)) (by simp [rawD, hb]) (by simp [aft])
    · exact nil (y := (x.1, basT x.2)) (by simp [rawD, hb]) (by simp [aft]) (.inl (ldB_no (bas_none hb)))
  exact nil (y := x) (by simp [rawD, k0, k1, k2, k3, k4, k5]) (by simp [aft, k0, k1, k2, k3, k4, k5]) (.inr rfl)

/-- What DeskDo answers with. -/
def nilDk : Dk := ((0, []), [])
def doR (d : Dk) (a : Dd) : Dk × Bool :=
  if dkB d = true then (match doD d a with | some e => (e, true) | none => (d, false)) else (nilDk, false)
theorem doR_no {d : Dk} {a : Dd} (h : dkB d = false) : doR d a = (nilDk, false) := by unfold doR; rw [h]; rfl
theorem doR_some {d e : Dk} {a : Dd} (h : dkB d = true) (k : doD d a = some e) : doR d a = (e, true) := by unfold doR; rw [if_pos h, k]
theorem doR_none {d : Dk} {a : Dd} (h : dkB d = true) (k : doD d a = none) : doR d a = (d, false) := by unfold doR; rw [if_pos h, k]

end Go.Proofs.YtlnffpofbfigaaaGreatDoor
