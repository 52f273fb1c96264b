/-
  The draws of chapter 5: some chain, some texts of at most 60 bytes.
-/
import Derived.Test.YtlnffpofbfigaaaGreatDoorFDraw2
import Derived.Test.YtlnffpofbfigaaaGreatDoorFSpecB
namespace Go.Proofs.YtlnffpofbfigaaaGreatDoor
open Go.RowKit

theorem lit10 (k : Nat) (h : k < 10) : ∃ s : ByteArray, (#[.string ⟨#[40, 97, 124, 33, 97, 41]⟩, .string ⟨#[33, 40, 97, 38, 33, 97, 41]⟩, .string ⟨#[40, 97, 62, 40, 97, 42, 97, 41, 41]⟩, .string ⟨#[40, 40, 97, 43, 97, 41, 62, 97, 41]⟩, .string ⟨#[40, 40, 97, 62, 98, 41, 124, 40, 98, 62, 97, 41, 41]⟩, .string ⟨#[40, 97, 62, 40, 98, 62, 97, 41, 41]⟩, .string ⟨#[40, 40, 40, 97, 62, 98, 41, 62, 98, 41, 62, 40, 40, 98, 62, 97, 41, 62, 97, 41, 41]⟩, .string ⟨#[40, 40, 97, 42, 97, 41, 62, 40, 40, 97, 42, 97, 41, 42, 97, 41, 41]⟩, .string ⟨#[40, 33, 97, 62, 40, 97, 62, 98, 41, 41]⟩, .string ⟨#[40, 40, 97, 43, 97, 41, 124, 33, 40, 97, 43, 97, 41, 41]⟩] : Array Value)[k]? = some (.string s) ∧ s.size ≤ 60 := by
  match k, h with
  | 0, _ => exact ⟨_, rfl, by decide⟩
  | 1, _ => exact ⟨_, rfl, by decide⟩
  | 2, _ => exact ⟨_, rfl, by decide⟩
  | 3, _ => exact ⟨_, rfl, by decide⟩
  | 4, _ => exact ⟨_, rfl, by decide⟩
  | 5, _ => exact ⟨_, rfl, by decide⟩
  | 6, _ => exact ⟨_, rfl, by decide⟩
  | 7, _ => exact ⟨_, rfl, by decide⟩
  | 8, _ => exact ⟨_, rfl, by decide⟩
  | 9, _ => exact ⟨_, rfl, by decide⟩

def TrPost (r P : Nat) (w : World) (e : Ending) (w' : World) : Prop :=
  ∃ s : ByteArray, e = .returned (.string s) ∧ s.size ≤ 60 ∧ Rd w' r (P + 45) ∧ w.grownBy w' (some r)

set_option maxHeartbeats 1600000 in
theorem true_draw (n : Int) (w : World) (r P : Nat) (hr : Rd w r P) (hP : P ≤ 70000) (hn : 1 ≤ n) (hn2 : n ≤ 1000) :
    Calls Tryz.prog 120 #[.pointer (some ⟨r, 0, none⟩), .int .i64 n] w (TrPost r P w) := by
  go_enter Tryz.func120, Tryz.ntmps120
  go_wp2_with fail
  refine (pick_any _ _ _ _ hr (by omega)).mono ?_
  rintro e w1 ⟨k, rfl, hk0, hk1, hr1, hg1⟩
  obtain rfl | rfl : k = 0 ∨ k = 1 := by omega
  · go_wp2_with fail
    refine (pick_any _ _ _ _ (hr1.alloc _) (by omega)).mono ?_
    rintro e w2 ⟨j, rfl, hj0, hj1, hr2, hg2⟩
    obtain ⟨j, rfl⟩ := Int.eq_ofNat_of_zero_le hj0
    obtain ⟨s, hC, hs⟩ := lit10 j (by omega)
    have hlt : (j : Int) < 10 := by omega
    have hx := cell_kept hg2 hr1.lt hC
    clear hC hj0 hj1
    go_wp2_with fail
    go_ret
    exact ⟨s, rfl, hs, hr2.mono (by omega), grownBy_trans hg1 (grownBy_trans (World.grownBy_alloc _ _ _) hg2)⟩
  · go_wp2_with fail
    refine (formed_draw _ _ _ _ hr1 (by omega) hn hn2).mono ?_
    rintro e w2 ⟨s, rfl, hs, hr2, hg2⟩
    go_wp2_with fail
    go_ret
    exact ⟨s, rfl, hs, hr2.mono (by omega), grownBy_trans hg1 hg2⟩

def LaPost (w : World) (e : Ending) (w' : World) : Prop :=
  ∃ (n : Int) (s : ByteArray), e = .returned (.tuple #[.int .i64 n, .string s]) ∧ s.size ≤ 60 ∧ -1 ≤ n ∧ n ≤ 7 ∧ w.grownBy w' none

def AxPost (w : World) (e : Ending) (w' : World) : Prop := ∃ n : Int, e = .returned (.int .i64 n) ∧ -1 ≤ n ∧ n ≤ 4 ∧ w.grownBy w' none

def SmPost (w : World) (e : Ending) (w' : World) : Prop :=
  ∃ (n : Int) (s t : ByteArray), e = .returned (.tuple #[.int .i64 n, .string s, .string t]) ∧ s.size ≤ 60 ∧ t.size ≤ 60 ∧ -1 ≤ n ∧ n ≤ 7 ∧ w.grownBy w' none

end Go.Proofs.YtlnffpofbfigaaaGreatDoor
