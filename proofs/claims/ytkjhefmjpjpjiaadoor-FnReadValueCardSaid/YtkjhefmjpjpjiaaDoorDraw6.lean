/-
  The contract of DrawReadValue: some chain and some text.
-/
import Derived.Test.YtkjhefmjpjpjiaaDoorDraw5
namespace Go.Proofs.YtkjhefmjpjpjiaaDoor
open Go.RowKit

def DrawSPost (w : World) (e : Ending) (w' : World) : Prop :=
  ∃ (n : Int) (s : ByteArray), e = .returned (.tuple #[.int .i64 n, .string s]) ∧ -1 ≤ n ∧ n ≤ 7 ∧ w.grownBy w' none

theorem strs_at (k : Nat) (h : k < 10) : ∃ s : ByteArray, (#[.string ⟨#[]⟩, .string ⟨#[48]⟩, .string ⟨#[49]⟩, .string ⟨#[50, 47, 52]⟩, .string ⟨#[49, 47, 50]⟩, .string ⟨#[50, 47, 51]⟩, .string ⟨#[48, 47, 49]⟩, .string ⟨#[51, 47, 50]⟩, .string ⟨#[49, 47, 48, 50]⟩, .string ⟨#[120]⟩] : Array Value)[k]? = some (.string s) := by
  match k, h with
  | 0, _ | 1, _ | 2, _ | 3, _ | 4, _ | 5, _ | 6, _ | 7, _ | 8, _ | 9, _ => exact ⟨_, rfl⟩
  | k + 10, h => omega

theorem cell_kept {w w' : World} {C : Array Value} {t : TypeId} {r k : Nat} {x : Value} (hg : (w.alloc (.cells C t)).grownBy w' (some r)) (hr : r < w.heap.size) (hC : C[k]? = some x) : w'.cell? ⟨w.heap.size, k, none⟩ = some x := by
  have hb := hg.block w.heap.size (by simp) (by simp; omega)
  rw [heap_alloc_new] at hb
  simp [World.cell?, hb, hC]

theorem Rd.drewn {w : World} {r P : Nat} (h : Rd w r P) : Rd w.drew r P := h.kept fun _ _ => rfl
theorem grownBy_undrew {a b : World} {row : Option Nat} (h : a.drew.grownBy b row) : a.grownBy b row := ⟨h.os, h.tape, h.output, h.size, h.block⟩

theorem cell_made {w : World} {C : Array Value} {t : TypeId} {k : Nat} {x : Value} (hC : C[k]? = some x) : (w.alloc (.cells C t)).cell? ⟨w.heap.size, k, none⟩ = some x := by
  rw [World.cell?_alloc_mark]; exact hC

theorem DrawReadValue_any (a : Option Addr) (len cap : Nat) (zs : List Int) (w : World) (h : IsRow .u8 w a len cap zs) :
    Calls Tryd.prog 18 #[.slice a len cap] w (DrawSPost w) := by
  go_enter Tryd.func18, Tryd.ntmps18
  go_wp2_with fail
  refine (open_draw a len cap zs _ h).mono ?_
  rintro e w1 ⟨rfl, hr1, hg1⟩
  clear h
  go_wp2_with fail
  refine (steps_draw _ _ _ _ hr1 (by omega) (by omega) (by omega)).mono ?_
  rintro e w2 ⟨n, rfl, hn1, hn2, hr2, hg2⟩
  go_wp2_with fail
  refine (pick_any _ _ _ _ hr2 (by omega)).mono ?_
  rintro e w3 ⟨k, rfl, hk0, hk1, hr3, hg3⟩
  have hgg := grownBy_own (grownBy_own hg1 hg2) hg3
  clear hg1 hg2 hg3
  by_cases h0 : k = 0
  · subst h0
    have hlt := hr3.lt
    go_wp2_with fail
    go_region_with (go_at_call 24; refine (pick_any _ _ _ _ (by first | exact hr3.drewn | exact (hr3.alloc _).drewn) (by omega)).mono ?_; rintro e w4 ⟨k4, rfl, hk4, hl4, hr4, hg4⟩; obtain ⟨k, rfl⟩ := Int.eq_ofNat_of_zero_le hk4; obtain ⟨s, hC⟩ := strs_at k (by omega); have hlt4 : (k : Int) < 10 := (by omega); have hm := @cell_made w4 _ 9 k _ hC; first | have hx := cell_kept (grownBy_undrew hg4) hlt hC | skip)
    all_goals
      go_wp2
      go_ret2
      refine ⟨n, _, rfl, hn1, hn2, ?_⟩
      first
      | exact grownBy_own (grownBy_trans hgg (World.grownBy_alloc _ _ _)) (grownBy_undrew hg4)
      | exact grownBy_trans (grownBy_own hgg (grownBy_undrew hg4)) (World.grownBy_alloc _ _ _)
  · have hb0 : (k == 0) = false := by simpa using h0
    go_wp2_with fail
    refine (value_draw _ _ _ _ hr3 (by omega) (by omega) (by omega)).mono ?_
    rintro e w4 ⟨u, rfl, hu1, hu2, hr4, hg4⟩
    go_wp2_with fail
    refine (stext_any _ _ _).mono ?_
    rintro e w5 ⟨rfl, hg5⟩
    go_wp2_with fail
    go_ret2
    exact ⟨n, _, rfl, hn1, hn2, grownBy_trans (grownBy_own hgg hg4) hg5⟩

end Go.Proofs.YtkjhefmjpjpjiaaDoor
