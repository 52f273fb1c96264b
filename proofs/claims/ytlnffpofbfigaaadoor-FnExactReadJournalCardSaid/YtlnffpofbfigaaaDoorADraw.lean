/-
  The draws of chapter 5: some chain, some texts of at most 60 bytes.
-/
import Derived.Test.YtlnffpofbfigaaaDoorFDraw2
import Derived.Test.YtlnffpofbfigaaaDoorFSpecB
namespace Go.Proofs.YtlnffpofbfigaaaDoor
open Go.RowKit

theorem lit10 (k : Nat) (h : k < 10) : ∃ s : ByteArray, (#[.string ⟨#[40, 97, 124, 33, 97, 41]⟩, .string ⟨#[33, 40, 97, 38, 33, 97, 41]⟩, .string ⟨#[40, 97, 62, 40, 97, 42, 97, 41, 41]⟩, .string ⟨#[40, 40, 97, 43, 97, 41, 62, 97, 41]⟩, .string ⟨#[40, 40, 97, 62, 98, 41, 124, 40, 98, 62, 97, 41, 41]⟩, .string ⟨#[40, 97, 62, 40, 98, 62, 97, 41, 41]⟩, .string ⟨#[40, 40, 40, 97, 62, 98, 41, 62, 98, 41, 62, 40, 40, 98, 62, 97, 41, 62, 97, 41, 41]⟩, .string ⟨#[40, 40, 97, 42, 97, 41, 62, 40, 40, 97, 42, 97, 41, 42, 97, 41, 41]⟩, .string ⟨#[40, 33, 97, 62, 40, 97, 62, 98, 41, 41]⟩, .string ⟨#[40, 40, 97, 43, 97, 41, 124, 33, 40, 97, 43, 97, 41, 41]⟩] : Array Value)[k]? = some (.string s) ∧ s.size ≤ 60 := by
  match k, h with
  | 0, _ => exact ⟨_, rfl, by decide⟩
  | 1, _ => exact ⟨_, rfl, by decide⟩
  | 2, _ => exact ⟨_, rfl, by decide⟩
  | 3, _ => exact ⟨_, rfl, by decide⟩
  | 4, _ => exact ⟨_, rfl, by decide⟩
  | 5, _ => exact ⟨_, rfl, by decide⟩
  | 6, _ => exact ⟨_, rfl, by decide⟩
  | 7, _ => exact ⟨_, rfl, by decide⟩
  | 8, _ => exact ⟨_, rfl, by decide⟩
  | 9, _ => exact ⟨_, rfl, by decide⟩

def TrPost (r P : Nat) (w : World) (e : Ending) (w' : World) : Prop :=
  ∃ s : ByteArray, e = .returned (.string s) ∧ s.size ≤ 60 ∧ Rd w' r (P + 45) ∧ w.grownBy w' (some r)

def LaPost (w : World) (e : Ending) (w' : World) : Prop :=
  ∃ (n : Int) (s : ByteArray), e = .returned (.tuple #[.int .i64 n, .string s]) ∧ s.size ≤ 60 ∧ -1 ≤ n ∧ n ≤ 7 ∧ w.grownBy w' none

def AxPost (w : World) (e : Ending) (w' : World) : Prop := ∃ n : Int, e = .returned (.int .i64 n) ∧ -1 ≤ n ∧ n ≤ 4 ∧ w.grownBy w' none

def SmPost (w : World) (e : Ending) (w' : World) : Prop :=
  ∃ (n : Int) (s t : ByteArray), e = .returned (.tuple #[.int .i64 n, .string s, .string t]) ∧ s.size ≤ 60 ∧ t.size ≤ 60 ∧ -1 ≤ n ∧ n ≤ 7 ∧ w.grownBy w' none

end Go.Proofs.YtlnffpofbfigaaaDoor
