/-
  What a slice of integers that came in is; the contract of l20Open: a new reader over the code's first 2000 bytes. The code is of any length.
-/
import Derived.Test.YtlnffpofbfigaaaGreatDoorDraw2
import Derived.OpenShut
namespace Go.Proofs.YtlnffpofbfigaaaGreatDoor
open Go.RowKit

def IsRow (k : IntKind) (w : World) (a : Option Addr) (len cap : Nat) (zs : List Int) : Prop :=
  (a = none ∧ len = 0 ∧ cap = 0 ∧ zs = []) ∨
  ∃ x, a = some x ∧ len ≤ cap ∧ cap ≤ maxLen ∧ zs.length = cap ∧ (∀ i, i < zs.length → w.cell? (x.add i) = some (.int k (zs.getD i 0))) ∧ ∀ n ∈ zs, (Lit.int k n).wf = true

theorem byte_of (n : Int) (h : (Lit.int .u8 n).wf = true) : ∃ u : Nat, u ≤ 255 ∧ n = (u : Int) := by
  have hb := bounds_u8 h
  exact ⟨n.toNat, by omega, by omega⟩

/-- The bytes of a code, where there is one. -/
theorem IsRow.bytes {w : World} {a : Option Addr} {len cap : Nat} {zs : List Int} (h : IsRow .u8 w a len cap zs) (h0 : 0 < len) :
    ∃ b off, a = some ⟨b, off, none⟩ ∧ len ≤ cap ∧ cap ≤ maxLen ∧ b < w.heap.size ∧ ∀ i, i < len → ∃ u : Nat, u ≤ 255 ∧ w.cell? ⟨b, off + i, none⟩ = some (.int .u8 u) := by
  rcases h with ⟨_, h, _⟩ | ⟨x, rfl, hl, hm, hz, hcell, hwz⟩
  · omega
  · obtain ⟨b, off, spot⟩ := x
    have hc := hcell 0 (by omega)
    have hspot : spot = none := by simpa [Addr.add] using World.cell?_spot hc
    subst hspot
    refine ⟨b, off, rfl, hl, hm, by simpa [Addr.add] using World.block_lt_of_cell? w _ hc, fun i hi => ?_⟩
    have hci := hcell i (by omega)
    obtain ⟨u, hu, hun⟩ := byte_of (zs.getD i 0) (hwz _ (by rw [List.getD_eq_getElem?_getD, List.getElem?_eq_getElem (show i < zs.length by omega)]; exact List.getElem_mem _))
    rw [add_none, hun] at hci
    exact ⟨u, hu, hci⟩

def OpenPost (w : World) (e : Ending) (w' : World) : Prop :=
  e = .returned (.pointer (some ⟨w.heap.size, 0, none⟩)) ∧ Rd w' w.heap.size 0 ∧ w.grownBy w' none

theorem Rd.made (w : World) (a : Option Addr) (len cap : Nat) (t : TypeId) (hl : len ≤ 2000)
    (hz : len = 0 ∨ ∃ b off, a = some ⟨b, off, none⟩ ∧ b < w.heap.size ∧ ∀ i, i < len → ∃ u : Nat, u ≤ 255 ∧ w.cell? ⟨b, off + i, none⟩ = some (.int .u8 u)) :
    Rd (w.alloc (.cells #[.slice a len cap, .int .i64 0] t)) w.heap.size 0 := by
  have hn : (w.alloc (.cells #[.slice a len cap, .int .i64 0] t)).heap[w.heap.size]? = some (.cells #[.slice a len cap, .int .i64 0] t) := heap_alloc_new w _
  obtain ⟨c0, c1, f1⟩ := cells_two hn
  refine ⟨a, len, cap, 0, c0, c1, f1, Nat.le_refl _, hl, ?_⟩
  rcases hz with hz | ⟨b, off, ha, hb, hc⟩
  · exact .inl hz
  · refine .inr ⟨b, off, ha, hb, fun i hi => ?_⟩
    obtain ⟨u, hu, hcu⟩ := hc i hi
    exact ⟨u, hu, (World.cell?_of_block (w := w) (Below.heap_alloc w _ b hb)).trans hcu⟩

theorem open_draw (a : Option Addr) (len cap : Nat) (zs : List Int) (w : World) (h : IsRow .u8 w a len cap zs) :
    Calls Tryz.prog 38 #[.slice a len cap] w (OpenPost w) := by
  by_cases hl : len ≤ 2000
  · have hz : len = 0 ∨ ∃ b off, a = some ⟨b, off, none⟩ ∧ b < w.heap.size ∧ ∀ i, i < len → ∃ u : Nat, u ≤ 255 ∧ w.cell? ⟨b, off + i, none⟩ = some (.int .u8 u) := by
      by_cases h0 : len = 0
      · exact .inl h0
      · obtain ⟨b, off, ha, _, _, hb, hc⟩ := h.bytes (by omega)
        exact .inr ⟨b, off, ha, hb, hc⟩
    have hmade := Rd.made w a len cap 118 hl hz
    clear h hz
    go_enter Tryz.func38, Tryz.ntmps38
    go_wp2
    go_ret
    exact ⟨rfl, hmade, World.grownBy_alloc _ _ _⟩
  · obtain ⟨b, off, rfl, hlc, hcm, hb, hc⟩ := h.bytes (by omega)
    have hmade := Rd.made w (some ⟨b, off, none⟩) 2000 cap 118 (Nat.le_refl _) (.inr ⟨b, off, rfl, hb, fun i hi => hc i (by omega)⟩)
    clear h hc
    have hd : decide ((2000 : Int) < (len : Int)) = true := by simp; omega
    unfold maxLen at hcm
    go_enter Tryz.func38, Tryz.ntmps38
    go_wp2
    go_ret
    exact ⟨rfl, hmade, World.grownBy_alloc _ _ _⟩

end Go.Proofs.YtlnffpofbfigaaaGreatDoor
