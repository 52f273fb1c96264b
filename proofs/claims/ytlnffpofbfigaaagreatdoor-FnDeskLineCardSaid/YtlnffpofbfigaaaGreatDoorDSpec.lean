/-
  A desk as it lies: pairs of a chain's steps and a formula in a row of two cells each; the model's LaidOk, DeskOk.
-/
import Derived.Test.YtlnffpofbfigaaaGreatDoorFSpecB
import Derived.Test.YtlnffpofbfigaaaGreatDoorDesk
namespace Go.Proofs.YtlnffpofbfigaaaGreatDoor
open Go.RowKit

def bs (l : List UInt8) : ByteArray := ⟨l.toArray⟩
theorem bl_bs (l : List UInt8) : bl (bs l) = l := rfl
theorem bs_bl (s : ByteArray) : bs (bl s) = s := rfl
theorem bs_size (l : List UInt8) : (bs l).size = l.length := by rw [bl_size, bl_bs]
def ldV (x : Ld) : Value := .agg #[.int .i64 x.1, .string (bs x.2)]
def ddV (a : Dd) : Value := .agg #[.int .i64 a.1, .int .i64 a.2.1, .string (bs a.2.2)]
def nilLd : Ld := (0, [])

/-- Pairs as they lie, one behind the other. -/
def LdsAt (w : World) (a : Option Addr) (xs : List Ld) : Prop :=
  xs.length ≤ maxLen ∧ (xs = [] ∨ ∃ b off, a = some ⟨b, off, none⟩ ∧ b < w.heap.size ∧ ∀ i, i < xs.length → w.cell? ⟨b, off + i * 2, none⟩ = some (.int .i64 (xs.getD i nilLd).1) ∧ w.cell? ⟨b, off + i * 2 + 1, none⟩ = some (.string (bs (xs.getD i nilLd).2)))
theorem LdsAt.kept {w w' : World} {a : Option Addr} {xs : List Ld} {row : Option Nat} (h : LdsAt w a xs) (hg : w.grownBy w' row) (hne : ∀ x, a = some x → some x.block ≠ row) : LdsAt w' a xs := by
  refine ⟨h.1, ?_⟩
  rcases h.2 with h | ⟨b, off, ha, hb, hc⟩
  · exact .inl h
  · exact .inr ⟨b, off, ha, Nat.lt_of_lt_of_le hb hg.size, fun i hi => ⟨(World.cell?_of_block (w := w) (a := ⟨b, off + i * 2, none⟩) (hg.block b hb (hne _ ha))).trans (hc i hi).1, (World.cell?_of_block (w := w) (a := ⟨b, off + i * 2 + 1, none⟩) (hg.block b hb (hne _ ha))).trans (hc i hi).2⟩⟩
theorem LdsAt.grown {w w' : World} {a : Option Addr} {xs : List Ld} (h : LdsAt w a xs) (hg : w.grownBy w' none) : LdsAt w' a xs := h.kept hg (by simp)
theorem LdsAt.nil (w : World) (a : Option Addr) : LdsAt w a [] := ⟨by simp, .inl rfl⟩

/-- A block of cells, as it lies. -/
def CellsAt (W : World) (b : Nat) (vs : Array Value) (T : TypeId) : Prop := W.heap[b]? = some (.cells vs T (0, 0))
theorem CellsAt.new (W : World) (vs : Array Value) (T : TypeId) : CellsAt (W.alloc (.cells vs T)) W.heap.size vs T := heap_alloc_new W _
theorem CellsAt.lt {W : World} {b : Nat} {vs : Array Value} {T : TypeId} (h : CellsAt W b vs T) : b < W.heap.size := (Array.getElem?_eq_some_iff.1 h).1
theorem CellsAt.kept {W W' : World} {row : Option Nat} {b : Nat} {vs : Array Value} {T : TypeId} (h : CellsAt W b vs T) (hg : W.grownBy W' row) (hne : some b ≠ row) : CellsAt W' b vs T := (hg.block b h.lt hne).trans h
theorem CellsAt.grown {W W' : World} {b : Nat} {vs : Array Value} {T : TypeId} (h : CellsAt W b vs T) (hg : W.grownBy W' none) : CellsAt W' b vs T := h.kept hg (by simp)
theorem CellsAt.cell {W : World} {b : Nat} {vs : Array Value} {T : TypeId} (h : CellsAt W b vs T) {i : Nat} {v : Value} (hi : vs[i]? = some v) : W.cell? ⟨b, i, none⟩ = some v := by
  simp [World.cell?, show W.heap[b]? = _ from h, hi]
theorem CellsAt.three {W : World} {b : Nat} {u v x : Value} {T : TypeId} (h : CellsAt W b #[u, v, x] T) : W.cell? ⟨b, 0, none⟩ = some u ∧ W.cell? ⟨b, 1, none⟩ = some v ∧ W.cell? ⟨b, 2, none⟩ = some x :=
  ⟨h.cell rfl, h.cell rfl, h.cell rfl⟩

theorem slaid_any (x : Ld) (w : World) :
    Calls Tryz.prog 49 #[ldV x] w fun e w' => e = .returned (.bool (ldB x)) ∧ w.grownBy w' none := by
  obtain ⟨n, s⟩ := x
  have hl : ldB (n, s) = (inB n 1 6 && isF s) := rfl
  have hb : bl (bs s) = s := rfl
  unfold ldV
  go_enter Tryz.func49, Tryz.ntmps49
  cases hn : inB n 1 6
  · go_wp2_with (first | (go_at_call 96; refine (in_any _ _ _ _).mono ?_; rintro e w' ⟨rfl, rfl⟩))
    go_ret
    rw [hl, hn]
    exact ⟨rfl, World.grownBy_alloc _ _ none⟩
  · go_wp2_with (first | (go_at_call 96; refine (in_any _ _ _ _).mono ?_; rintro e w' ⟨rfl, rfl⟩) | (go_at_call 74; refine (sform_any _ _).mono ?_; rintro e w' ⟨rfl, rfl⟩))
    go_ret
    rw [hl, hn]
    exact ⟨rfl, World.grownBy_alloc _ _ none⟩

theorem all_take {xs : List Ld} {k : Nat} (h : ∀ j, j < k → ldB (xs.getD j nilLd) = true) (hk : k = xs.length) : ∀ x ∈ xs, ldB x = true := by
  intro x hx
  obtain ⟨j, hj, rfl⟩ := List.mem_iff_getElem.1 hx
  have := h j (by omega)
  rwa [List.getD_eq_getElem?_getD, List.getElem?_eq_getElem hj] at this
theorem getLd_mem {xs : List Ld} {k : Nat} (h : k < xs.length) : xs.getD k nilLd ∈ xs := by
  rw [List.getD_eq_getElem?_getD, List.getElem?_eq_getElem h]
  exact List.getElem_mem h
theorem dkB_bad {x : Ld} {xs : List Ld} {k : Nat} (hk : k < xs.length) (h : ldB (xs.getD k nilLd) = false) : dkB (x, xs) = false := by
  cases e : dkB (x, xs)
  · rfl
  · rw [(dkB_of e).1 _ (getLd_mem hk)] at h; cases h
theorem dkB_all {x : Ld} {xs : List Ld} (h : ∀ y ∈ xs, ldB y = true) : dkB (x, xs) = (ldB x && decide (xs.length ≤ 8)) := by
  unfold dkB
  rw [List.all_eq_true.2 h]; rfl

def DkRel (xs : List Ld) (w : World) (i : Value) (wr : World) : Prop := ∃ k : Nat, k ≤ xs.length ∧ i = .int .i64 k ∧ (∀ j, j < k → ldB (xs.getD j nilLd) = true) ∧ w.grownBy wr none

set_option maxHeartbeats 1000000 in
theorem sdesk_any (n : Int) (s : List UInt8) (a : Option Addr) (cap : Nat) (xs : List Ld) (w : World) (h : LdsAt w a xs) :
    Calls Tryz.prog 13 #[.agg #[.int .i64 n, .string (bs s), .slice a xs.length cap]] w fun e w' => e = .returned (.bool (dkB ((n, s), xs))) ∧ w.grownBy w' none := by
  have hm := h.1
  unfold maxLen at hm
  go_enter Tryz.func13, Tryz.ntmps13
  go_wp2
  generalize hw1 : w.alloc (Obj.cells #[Value.int IntKind.i64 n, Value.string (bs s), Value.slice a xs.length cap] 32) = w1
  go_loopw [3] (fun i wr => DkRel xs w1 i wr) (fun i _ => xs.length - (intOf i).toNat)
  case atStart => exact ⟨0, by omega, rfl, fun j hj => absurd hj (by omega), grownBy_refl _ _⟩
  case round =>
    obtain ⟨k, hk, rfl, hall, hgr⟩ := hrel
    obtain ⟨hB0, hB1, hB2⟩ := ((show CellsAt w1 w.heap.size _ _ by rw [← hw1]; exact CellsAt.new _ _ _).grown hgr).three
    by_cases hlt : k < xs.length
    · have hx2 := (h.grown (by rw [← hw1]; exact World.grownBy_alloc _ _ none)).grown hgr
      rcases hx2.2 with h0 | ⟨b, off, rfl, hb, hc⟩
      · rw [h0] at hlt; simp at hlt
      obtain ⟨c1, c2⟩ := hc k hlt
      clear hx2 hc
      generalize hp : xs.getD k nilLd = p at *
      have Hgr := Lib.hid hgr
      clear hgr
      have cc := slaid_any p
      unfold ldV at cc
      cases hf : ldB p
      · rw [hf] at cc
        go_wp2_with (first | (go_at_call 49; refine (cc _).mono ?_; rintro e w' ⟨rfl, hg⟩))
        go_ret
        refine ⟨?_, grownBy_trans (grownBy_trans (World.grownBy_alloc _ _ none) (by rw [hw1]; exact Hgr.out)) hg⟩
        rw [dkB_bad hlt (by rw [hp]; exact hf)]; rfl
      · rw [hf] at cc
        go_wp2_with (first | (go_at_call 49; refine (cc _).mono ?_; rintro e w' ⟨rfl, hg⟩))
        go_roundw
        case rel => exact ⟨k + 1, by omega, by go_num, fun j hj => by
          by_cases e : j = k
          · subst e; rw [hp]; exact hf
          · exact hall j (by omega), grownBy_trans Hgr.out hg⟩
        case measure => simp [intOf]; omega
    · obtain rfl : k = xs.length := by omega
      have Hgr := Lib.hid hgr
      clear hgr
      have hd := dkB_all (x := (n, s)) (all_take hall rfl)
      have cc := slaid_any (n, s)
      unfold ldV at cc
      have hfin : ∀ w', wr.grownBy w' none → w.grownBy w' none := fun w' hg => grownBy_trans (grownBy_trans (World.grownBy_alloc _ _ none) (by rw [hw1]; exact Hgr.out)) hg
      cases hf : ldB (n, s)
      · rw [hf] at cc hd
        go_wp2_with (first | (go_at_call 49; refine (cc _).mono ?_; rintro e w' ⟨rfl, hg⟩))
        go_ret
        exact ⟨by rw [hd]; rfl, hfin _ hg⟩
      · rw [hf] at cc hd
        go_wp2_with (first | (go_at_call 49; refine (cc _).mono ?_; rintro e w' ⟨rfl, hg⟩; obtain ⟨hB0, hB1, hB2⟩ := ((show CellsAt w1 w.heap.size _ _ by rw [← hw1]; exact CellsAt.new _ _ _).grown (grownBy_trans Hgr.out hg)).three))
        go_ret
        refine ⟨?_, hfin _ hg⟩
        have e8 : (true && decide (xs.length ≤ 8)) = decide ((xs.length : Int) ≤ 8) := by
          rw [Bool.true_and]; exact decide_eq_decide.2 (by omega)
        rw [hd, e8]; rfl

end Go.Proofs.YtlnffpofbfigaaaGreatDoor
