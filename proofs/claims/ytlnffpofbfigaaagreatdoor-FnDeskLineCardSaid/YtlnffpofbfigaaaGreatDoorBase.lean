/-
  Contracts of the functions of chapter 1 that only compute with numbers: l1In, ValueOk (both), stepsOk, alive. No condition.
-/
import Derived.Test.YtlnffpofbfigaaaGreatDoorChecked
import Derived.WalkKit
import Derived.WalkLawsBesides
import Derived.WalkSpells
import Derived.Lib.Hide
import Derived.RowKit3
import Derived.Below
namespace Go.Proofs.YtlnffpofbfigaaaGreatDoor
open Go.RowKit

/-! Worlds that differ by new blocks and by writes to one block. -/
theorem grownBy_refl (w : World) (row : Option Nat) : w.grownBy w row := ⟨rfl, rfl, rfl, Nat.le_refl _, fun _ _ _ => rfl⟩
theorem grownBy_trans {a b c : World} {row : Option Nat} (h : a.grownBy b row) (k : b.grownBy c row) : a.grownBy c row :=
  ⟨k.os.trans h.os, k.tape.trans h.tape, k.output.trans h.output, Nat.le_trans h.size k.size, fun i hi hne => (k.block i (Nat.lt_of_lt_of_le hi h.size) hne).trans (h.block i hi hne)⟩
theorem grownBy_drew {a b : World} {row : Option Nat} (h : a.grownBy b row) : a.grownBy b.drew row := ⟨h.os, h.tape, h.output, h.size, h.block⟩
theorem grownBy_drewN {a b : World} {row : Option Nat} (h : a.grownBy b row) (n : Nat) : a.grownBy (b.drewN n) row := ⟨h.os, h.tape, h.output, h.size, h.block⟩
theorem grownBy_set (w : World) (r o : Nat) (v : Value) : w.grownBy (w.setCell ⟨r, o, none⟩ v) (some r) :=
  ⟨rfl, rfl, rfl, by simp [World.setCell], fun k _ hne => Below.heap_setCell w ⟨r, o, none⟩ v k (fun e => hne (by rw [e]))⟩

/-- Two steps, where only a block that the first one made is written: below the first world's size nothing has turned. -/
theorem grownBy_own {a b c : World} (h : a.grownBy b none) (k : b.grownBy c (some a.heap.size)) : a.grownBy c none :=
  ⟨k.os.trans h.os, k.tape.trans h.tape, k.output.trans h.output, Nat.le_trans h.size k.size,
    fun i hi _ => (k.block i (Nat.lt_of_lt_of_le hi h.size) (by simp; omega)).trans (h.block i hi (by simp))⟩
theorem below_of {a b : World} (h : a.grownBy b none) : Below a.heap.size a b := ⟨h.os, h.tape, h.output, h.size, fun k hk => h.block k hk (by simp)⟩

theorem add_none (b off i : Nat) : (⟨b, off, none⟩ : Addr).add i = ⟨b, off + i, none⟩ := by unfold Addr.add; split <;> simp_all

theorem cells_two {w : World} {r : Nat} {x y : Value} {t : TypeId} (h : w.heap[r]? = some (.cells #[x, y] t)) :
    w.cell? ⟨r, 0, none⟩ = some x ∧ w.cell? ⟨r, 1, none⟩ = some y ∧ w.frozen? ⟨r, 1, none⟩ = false := ⟨by simp [World.cell?, h], by simp [World.cell?, h], by simp [World.frozen?, h]⟩

theorem cells_new {w : World} {r : Nat} {x y : Value} {t : TypeId} (h : w.heap[r]? = some (.cells #[x, y] t)) :
    w.cell? ⟨r, 0, none⟩ = some x ∧ w.cell? ⟨r, 1, none⟩ = some y ∧ w.frozen? ⟨r, 0, none⟩ = false ∧ w.frozen? ⟨r, 1, none⟩ = false :=
  ⟨by simp [World.cell?, h], by simp [World.cell?, h], by simp [World.frozen?, h], by simp [World.frozen?, h]⟩

def inB (n lo hi : Int) : Bool := decide (lo ≤ n ∧ n ≤ hi)
theorem inB_t {n lo hi : Int} (h : lo ≤ n ∧ n ≤ hi) : inB n lo hi = true := by unfold inB; simpa using h
theorem inB_f {n lo hi : Int} (h : ¬ (lo ≤ n ∧ n ≤ hi)) : inB n lo hi = false := by unfold inB; simpa using h
theorem inB_of {n lo hi : Int} (h : inB n lo hi = true) : lo ≤ n ∧ n ≤ hi := by unfold inB at h; simpa using h
theorem inB_not {n lo hi : Int} (h : inB n lo hi = false) : ¬ (lo ≤ n ∧ n ≤ hi) := by unfold inB at h; simpa using h

def vokB (n v : Int) : Bool := decide (1 ≤ n ∧ n ≤ 6 ∧ 0 ≤ v ∧ v ≤ n)
theorem vokB_t {n v : Int} (h : 1 ≤ n ∧ n ≤ 6 ∧ 0 ≤ v ∧ v ≤ n) : vokB n v = true := by unfold vokB; simpa using h
theorem vokB_f {n v : Int} (h : ¬ (1 ≤ n ∧ n ≤ 6 ∧ 0 ≤ v ∧ v ≤ n)) : vokB n v = false := by unfold vokB; simpa using h
theorem vokB_of {n v : Int} (h : vokB n v = true) : 1 ≤ n ∧ n ≤ 6 ∧ 0 ≤ v ∧ v ≤ n := by unfold vokB at h; simpa using h
theorem vokB_not {n v : Int} (h : vokB n v = false) : ¬ (1 ≤ n ∧ n ≤ 6 ∧ 0 ≤ v ∧ v ≤ n) := by unfold vokB at h; simpa using h

theorem in_any (n lo hi : Int) (w : World) :
    Calls Tryz.prog 96 #[.int .i64 n, .int .i64 lo, .int .i64 hi] w fun e w' => e = .returned (.bool (inB n lo hi)) ∧ w = w' := by
  by_cases h1 : lo ≤ n
  · by_cases h2 : n ≤ hi
    · rw [inB_t ⟨h1, h2⟩]
      go_enter Tryz.func96, Tryz.ntmps96
      go_wp2
      go_ret
      exact ⟨rfl, rfl⟩
    · rw [inB_f (by omega)]
      go_enter Tryz.func96, Tryz.ntmps96
      go_wp2
      go_ret
      exact ⟨rfl, rfl⟩
  · rw [inB_f (by omega)]
    go_enter Tryz.func96, Tryz.ntmps96
    go_wp2
    go_ret
    exact ⟨rfl, rfl⟩

theorem steps_any (n : Int) (w : World) :
    Calls Tryz.prog 107 #[.int .i64 n] w fun e w' => e = .returned (.bool (inB n 1 6)) ∧ w = w' := by
  by_cases h1 : 1 ≤ n
  · by_cases h2 : n ≤ 6
    · rw [inB_t ⟨h1, h2⟩]
      go_enter Tryz.func107, Tryz.ntmps107
      go_wp2
      go_ret
      exact ⟨rfl, rfl⟩
    · rw [inB_f (by omega)]
      go_enter Tryz.func107, Tryz.ntmps107
      go_wp2
      go_ret
      exact ⟨rfl, rfl⟩
  · rw [inB_f (by omega)]
    go_enter Tryz.func107, Tryz.ntmps107
    go_wp2
    go_ret
    exact ⟨rfl, rfl⟩

theorem svok_any (n v : Int) (w : World) :
    Calls Tryz.prog 116 #[.int .i64 n, .int .i64 v] w fun e w' => e = .returned (.bool (vokB n v)) ∧ w = w' := by
  by_cases h1 : 1 ≤ n ∧ n ≤ 6
  · by_cases h2 : 0 ≤ v ∧ v ≤ n
    · rw [vokB_t ⟨h1.1, h1.2, h2.1, h2.2⟩]
      have e1 := inB_t h1
      have e2 := inB_t h2
      go_enter Tryz.func116, Tryz.ntmps116
      go_wp2_with (go_at_call 96; refine (in_any _ _ _ _).mono ?_; rintro e w' ⟨rfl, rfl⟩)
      go_ret
      exact ⟨rfl, rfl⟩
    · rw [vokB_f (by omega)]
      have e1 := inB_t h1
      have e2 := inB_f h2
      go_enter Tryz.func116, Tryz.ntmps116
      go_wp2_with (go_at_call 96; refine (in_any _ _ _ _).mono ?_; rintro e w' ⟨rfl, rfl⟩)
      go_ret
      exact ⟨rfl, rfl⟩
  · rw [vokB_f (by omega)]
    have e1 := inB_f h1
    go_enter Tryz.func116, Tryz.ntmps116
    go_wp2_with (go_at_call 96; refine (in_any _ _ _ _).mono ?_; rintro e w' ⟨rfl, rfl⟩)
    go_ret
    exact ⟨rfl, rfl⟩

theorem vok_any (n v : Int) (w : World) :
    Calls Tryz.prog 58 #[.int .i64 n, .int .i64 v] w fun e w' => e = .returned (.bool (vokB n v)) ∧ w = w' := by
  by_cases h1 : 1 ≤ n ∧ n ≤ 6
  · have e1 := inB_t h1
    by_cases h2 : 0 ≤ v
    · by_cases h3 : v ≤ n
      · rw [vokB_t ⟨h1.1, h1.2, h2, h3⟩]
        go_enter Tryz.func58, Tryz.ntmps58
        go_wp2_with (go_at_call 107; refine (steps_any _ _).mono ?_; rintro e w' ⟨rfl, rfl⟩)
        go_ret
        exact ⟨rfl, rfl⟩
      · rw [vokB_f (by omega)]
        have h4 : decide (v ≤ n) = false := by simpa using h3
        go_enter Tryz.func58, Tryz.ntmps58
        go_wp2_with (go_at_call 107; refine (steps_any _ _).mono ?_; rintro e w' ⟨rfl, rfl⟩)
        go_ret
        exact ⟨rfl, rfl⟩
    · rw [vokB_f (by omega)]
      go_enter Tryz.func58, Tryz.ntmps58
      go_wp2_with (go_at_call 107; refine (steps_any _ _).mono ?_; rintro e w' ⟨rfl, rfl⟩)
      go_ret
      exact ⟨rfl, rfl⟩
  · rw [vokB_f (by omega)]
    have e1 := inB_f h1
    go_enter Tryz.func58, Tryz.ntmps58
    go_wp2_with (go_at_call 107; refine (steps_any _ _).mono ?_; rintro e w' ⟨rfl, rfl⟩)
    go_ret
    exact ⟨rfl, rfl⟩

theorem alive_any (w : World) :
    Calls Tryz.prog 19 #[] w fun e w' => e = .returned (.bool true) ∧ w = w' := by
  have e1 : vokB 2 1 = true := vokB_t (by omega)
  have e2 : vokB 2 3 = false := vokB_f (by omega)
  go_enter Tryz.func19, Tryz.ntmps19
  go_wp2_with (go_at_call 58; refine (vok_any _ _ _).mono ?_; rintro e w' ⟨rfl, rfl⟩)
  go_ret
  exact ⟨rfl, rfl⟩

end Go.Proofs.YtlnffpofbfigaaaGreatDoor
