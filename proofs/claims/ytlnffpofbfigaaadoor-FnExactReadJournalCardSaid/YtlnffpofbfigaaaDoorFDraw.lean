/-
  The draws of formulas: some text of at most so many bytes. The code is of any length.
-/
import Derived.Test.YtlnffpofbfigaaaDoorSDraw
import Derived.Deep.RegionWith
namespace Go.Proofs.YtlnffpofbfigaaaDoor
open Go.RowKit

theorem Rd.drewn {w : World} {r P : Nat} (h : Rd w r P) : Rd w.drew r P := h.kept fun _ _ => rfl
theorem grownBy_undrew {a b : World} {row : Option Nat} (h : a.drew.grownBy b row) : a.grownBy b row := ⟨h.os, h.tape, h.output, h.size, h.block⟩
theorem cell_kept {w w' : World} {C : Array Value} {t : TypeId} {r k : Nat} {x : Value} (hg : (w.alloc (.cells C t)).grownBy w' (some r)) (hr : r < w.heap.size) (hC : C[k]? = some x) : w'.cell? ⟨w.heap.size, k, none⟩ = some x := by
  have hb := hg.block w.heap.size (by simp) (by simp; omega)
  rw [heap_alloc_new] at hb
  simp [World.cell?, hb, hC]
theorem cell_made {w : World} {C : Array Value} {t : TypeId} {k : Nat} {x : Value} (hC : C[k]? = some x) : (w.alloc (.cells C t)).cell? ⟨w.heap.size, k, none⟩ = some x := by
  rw [World.cell?_alloc_mark]; exact hC
theorem cell_stays {w1 w2 : World} {r b k : Nat} {x : Value} (h : w1.cell? ⟨b, k, none⟩ = some x) (hg : w1.grownBy w2 (some r)) (hne : r < b) : w2.cell? ⟨b, k, none⟩ = some x :=
  (World.cell?_of_block (hg.block b (World.block_lt_of_cell? w1 _ h) (by simp; omega))).trans h

theorem lit7 (k : Nat) (h : k < 7) : ∃ s : ByteArray, (#[.string ⟨#[97]⟩, .string ⟨#[98]⟩, .string ⟨#[97]⟩, .string ⟨#[98]⟩, .string ⟨#[99]⟩, .string ⟨#[49]⟩, .string ⟨#[48]⟩] : Array Value)[k]? = some (.string s) ∧ s.size = 1 := by
  match k, h with
  | 0, _ | 1, _ | 2, _ | 3, _ | 4, _ | 5, _ | 6, _ => exact ⟨_, rfl, rfl⟩
  | k + 7, h => omega
theorem lit6 (k : Nat) (h : k < 6) : ∃ s : ByteArray, (#[.string ⟨#[62]⟩, .string ⟨#[43]⟩, .string ⟨#[42]⟩, .string ⟨#[38]⟩, .string ⟨#[124]⟩, .string ⟨#[62]⟩] : Array Value)[k]? = some (.string s) ∧ s.size = 1 := by
  match k, h with
  | 0, _ | 1, _ | 2, _ | 3, _ | 4, _ | 5, _ => exact ⟨_, rfl, rfl⟩
  | k + 6, h => omega
theorem lit5 (k : Nat) (h : k < 5) : ∃ s : ByteArray, (#[.string ⟨#[]⟩, .string ⟨#[40]⟩, .string ⟨#[41]⟩, .string ⟨#[100]⟩, .string ⟨#[38]⟩] : Array Value)[k]? = some (.string s) ∧ s.size ≤ 1 := by
  match k, h with
  | 0, _ => exact ⟨_, rfl, by decide⟩
  | 1, _ | 2, _ | 3, _ | 4, _ => exact ⟨_, rfl, by decide⟩
  | k + 5, h => omega

theorem size_one (c : UInt8) : (⟨#[c]⟩ : ByteArray).size = 1 := rfl

end Go.Proofs.YtlnffpofbfigaaaDoor
