/-
  Contracts of ReadValue, both. No condition.
-/
import Derived.Test.YtkjhefmjpjpjiaaDoorVText
import Derived.LoopTactic
namespace Go.Proofs.YtkjhefmjpjpjiaaDoor
open Go.RowKit

/-- The first value of the chain of n steps whose text is s. -/
def rdO (n : Int) (s : ByteArray) : Option Nat := if inB n 1 6 then (List.range (n.toNat + 1)).find? (fun v => (vtext n v).toList == s.toList) else none
def rdI (n : Int) (s : ByteArray) : Int := match rdO n s with | some x => (x : Int) | none => -1
def rdB (n : Int) (s : ByteArray) : Bool := (rdO n s).isSome

def RdPost (n : Int) (s : ByteArray) (w : World) (e : Ending) (w' : World) : Prop :=
  e = .returned (.tuple #[.int .i64 (rdI n s), .bool (rdB n s)]) ∧ w.grownBy w' none

theorem rd_none {n : Int} {s : ByteArray} (h : rdO n s = none) : Ending.returned (.tuple #[.int .i64 (-1), .bool false]) = .returned (.tuple #[.int .i64 (rdI n s), .bool (rdB n s)]) := by
  unfold rdI rdB; rw [h]; rfl
theorem rd_some {n : Int} {s : ByteArray} {x : Nat} (h : rdO n s = some x) : Ending.returned (.tuple #[.int .i64 x, .bool true]) = .returned (.tuple #[.int .i64 (rdI n s), .bool (rdB n s)]) := by
  unfold rdI rdB; rw [h]; rfl

theorem find_first {p : Nat → Bool} : ∀ {m k : Nat}, k < m → (∀ j, j < k → p j = false) → p k = true → (List.range m).find? p = some k := by
  intro m k hk hno hp
  rw [List.find?_range_eq_some]
  exact ⟨hp, by simpa using hk, fun j hj => by simp [hno j hj]⟩
theorem find_no {p : Nat → Bool} {m : Nat} (h : ∀ j, j < m → p j = false) : (List.range m).find? p = none := by
  rw [List.find?_eq_none]
  intro x hx
  simp [h x (by simpa using hx)]

theorem rdO_out {n : Int} {s : ByteArray} (h : inB n 1 6 = false) : rdO n s = none := by unfold rdO; simp [h]
theorem rdO_found {n : Int} {s : ByteArray} {k : Nat} (h : inB n 1 6 = true) (hk : k < n.toNat + 1) (hno : ∀ j : Nat, j < k → ((vtext n j).toList == s.toList) = false) (hp : ((vtext n k).toList == s.toList) = true) : rdO n s = some k := by
  unfold rdO; rw [h]; exact find_first hk hno hp
theorem rdO_no {n : Int} {s : ByteArray} (h : inB n 1 6 = true) (hno : ∀ j : Nat, j < n.toNat + 1 → ((vtext n j).toList == s.toList) = false) : rdO n s = none := by
  unfold rdO; rw [h]; exact find_no hno

def ReadRel (n : Int) (s : ByteArray) (w : World) (i : Value) (wr : World) : Prop :=
  ∃ k : Nat, k ≤ n.toNat + 1 ∧ i = .int .i64 k ∧ (∀ j : Nat, j < k → ((vtext n j).toList == s.toList) = false) ∧ w.grownBy wr none

theorem no_more {n : Int} {s : ByteArray} {k : Nat} (h : ∀ j : Nat, j < k → ((vtext n j).toList == s.toList) = false) (hk : ((vtext n k).toList == s.toList) = false) : ∀ j : Nat, j < k + 1 → ((vtext n j).toList == s.toList) = false := by
  intro j hj
  by_cases e : j = k
  · rw [e]; exact hk
  · exact h j (by omega)

theorem read_any (n : Int) (s : ByteArray) (w : World) :
    Calls Tryd.prog 17 #[.int .i64 n, .string s] w (RdPost n s w) := by
  cases e1 : inB n 1 6
  · have ht := Lib.hid (rdO_out (s := s) e1)
    go_enter Tryd.func17, Tryd.ntmps17
    go_wp2_with (go_at_call 31; refine (steps_any _ _).mono ?_; rintro e w' ⟨rfl, rfl⟩)
    go_ret2
    exact ⟨rd_none ht.out, grownBy_refl _ _⟩
  · have k1 := inB_of e1
    have E1 := Lib.hid e1
    go_enter Tryd.func17, Tryd.ntmps17
    go_wp2_with (go_at_call 31; refine (steps_any _ _).mono ?_; rintro e w' ⟨rfl, rfl⟩)
    go_loopw [12] (fun i wr => ReadRel n s w i wr) (fun i _ => (n + 1 - intOf i).toNat)
    case atStart => exact ⟨0, by omega, rfl, fun j hj => by omega, grownBy_refl _ _⟩
    case round =>
      obtain ⟨k, hk, rfl, hno, hgr⟩ := hrel
      have Hno := Lib.hid hno
      clear hno
      by_cases hlt : (k : Int) < n + 1
      · cases hb : ((vtext n k).toList == s.toList)
        · go_wp2_with (go_at_call 13; refine (text_any _ _ _).mono ?_; rintro e w1 ⟨rfl, hg1⟩)
          go_roundw
          case rel => exact ⟨k + 1, by omega, by go_num, no_more Hno.out hb, grownBy_trans hgr hg1⟩
          case measure => simp [intOf]; omega
        · go_wp2_with (go_at_call 13; refine (text_any _ _ _).mono ?_; rintro e w1 ⟨rfl, hg1⟩)
          go_ret2
          exact ⟨rd_some (rdO_found E1.out (by omega) Hno.out hb), grownBy_trans hgr hg1⟩
      · obtain rfl : k = n.toNat + 1 := by omega
        go_wp2
        go_ret2
        exact ⟨rd_none (rdO_no E1.out Hno.out), hgr⟩

theorem vtext_ne {n v : Int} (h : vokB n v = true) : (vtext n v).toList.isEmpty = false := by
  unfold vtext vtextOf
  rw [h, if_pos rfl, ByteArray.toList_eq]
  split
  · rfl
  · simp [digS]

theorem vtext_no {n v : Int} (h : vokB n v = false) : vtext n v = ⟨#[]⟩ := by unfold vtext; simp [h]

theorem empty_eq {a b : ByteArray} (ha : a.toList.isEmpty = false) (hb : b.toList.isEmpty = true) : (a.toList == b.toList) = false := by
  cases h : (a.toList == b.toList)
  · rfl
  · rw [eq_of_beq h, hb] at ha; cases ha

theorem rdO_empty {n : Int} {s : ByteArray} (hs : s.toList.isEmpty = true) : rdO n s = none := by
  cases h : inB n 1 6
  · exact rdO_out h
  · have k := inB_of h
    exact rdO_no h fun j hj => empty_eq (vtext_ne (vokB_t (by omega))) hs

theorem rdO_zero {n : Int} {s : ByteArray} (h : n ≤ 0) : rdO n s = none := rdO_out (inB_f (by omega))

theorem zero_ne {k : Nat} {s : ByteArray} (hs : s.toList.isEmpty = false) (hk : vokB 0 k = false) : ((vtext 0 k).toList == s.toList) = false := by
  rw [vtext_no hk]
  cases h : ((⟨#[]⟩ : ByteArray).toList == s.toList)
  · rfl
  · have e := eq_of_beq h
    rw [← e, ByteArray.toList_eq] at hs
    cases hs

theorem sread_any (n : Int) (s : ByteArray) (w : World) :
    Calls Tryd.prog 19 #[.int .i64 n, .string s] w (RdPost n s w) := by
  by_cases h6 : 6 < n
  · have ht := Lib.hid (rdO_out (s := s) (inB_f (n := n) (lo := 1) (hi := 6) (by omega)))
    have d6 : decide (n ≤ 6) = false := by simp; omega
    go_enter Tryd.func19, Tryd.ntmps19
    go_wp2
    go_loopw [6] (fun i wr => i = .int .i64 0 ∧ wr = w) (fun _ _ => 0)
    case atStart => exact ⟨rfl, rfl⟩
    case round =>
      obtain ⟨rfl, rfl⟩ := hrel
      go_wp2
      go_ret2
      exact ⟨rd_none ht.out, grownBy_refl _ _⟩
  · cases hs : s.toList.isEmpty
    · go_enter Tryd.func19, Tryd.ntmps19
      go_wp2
      go_loopw [6] (fun i wr => ∃ k : Nat, (k = 0 ∨ (k : Int) ≤ n + 1) ∧ i = .int .i64 k ∧ (∀ j : Nat, j < k → ((vtext n j).toList == s.toList) = false) ∧ w.grownBy wr none) (fun i _ => (n + 1 - intOf i).toNat)
      case atStart => exact ⟨0, .inl rfl, rfl, fun j hj => by omega, grownBy_refl _ _⟩
      case round =>
        obtain ⟨k, hk, rfl, hno, hgr⟩ := hrel
        have Hno := Lib.hid hno
        clear hno
        by_cases hlt : (k : Int) ≤ n
        · cases hb : ((vtext n k).toList == s.toList)
          · go_wp2_with (go_at_call 15; refine (stext_any _ _ _).mono ?_; rintro e w1 ⟨rfl, hg1⟩)
            go_roundw
            case rel => exact ⟨k + 1, .inr (by omega), by go_num, no_more Hno.out hb, grownBy_trans hgr hg1⟩
            case measure => simp [intOf]; omega
          · have hin : Hid (inB n 1 6 = true) := by
              by_cases h0 : n = 0
              · subst h0
                obtain rfl : k = 0 := by omega
                rw [zero_ne hs (vokB_f (by omega))] at hb
                cases hb
              · exact inB_t (by omega)
            go_wp2_with (go_at_call 15; refine (stext_any _ _ _).mono ?_; rintro e w1 ⟨rfl, hg1⟩)
            go_ret2
            exact ⟨rd_some (rdO_found hin.out (by omega) Hno.out hb), grownBy_trans hgr hg1⟩
        · have hno2 : Hid (rdO n s = none) := by
            cases h : inB n 1 6
            · exact rdO_out h
            · have := inB_of h
              exact rdO_no h fun j hj => Hno.out j (by omega)
          go_wp2
          go_ret2
          exact ⟨rd_none hno2.out, hgr⟩
    · have ht := Lib.hid (rdO_empty (n := n) hs)
      go_enter Tryd.func19, Tryd.ntmps19
      go_wp2
      go_loopw [6] (fun i wr => ∃ k : Nat, (k = 0 ∨ (k : Int) ≤ n + 1) ∧ i = .int .i64 k ∧ wr = w) (fun i _ => (n + 1 - intOf i).toNat)
      case atStart => exact ⟨0, .inl rfl, rfl, rfl⟩
      case round =>
        obtain ⟨k, hk, rfl, rfl⟩ := hrel
        by_cases hlt : (k : Int) ≤ n
        · go_wp2_with fail
          go_roundw
          case rel => exact ⟨k + 1, .inr (by omega), by go_num, trivial⟩
          case measure => simp [intOf]; omega
        · go_wp2
          go_ret2
          exact ⟨rd_none ht.out, grownBy_refl _ _⟩

end Go.Proofs.YtkjhefmjpjpjiaaDoor
