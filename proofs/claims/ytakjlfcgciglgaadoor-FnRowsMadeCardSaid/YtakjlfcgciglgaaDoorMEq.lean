/-
  Two lists of rows of which each is one of the same rows: eqIntSS and sameRows say that they are equal. What both RowsMade answer, in one word.
-/
import Derived.Test.YtakjlfcgciglgaaDoorMMade
import Derived.Test.YtakjlfcgciglgaaDoorMImp
import Derived.Test.YtakjlfcgciglgaaDoorFCell
import Derived.Deep.RegionHeld3
namespace Go.Proofs.YtakjlfcgciglgaaDoor
open Go.RowKit

theorem heldE_g {w0 w1 : World} {a b : Addr} {x y : Value} (h : w1.cell? a = some x ∧ w1.cell? b = some y ∧ w0.grownBy w1 none) : w0.grownBy w1 none := h.2.2

theorem grownBy_undrew {a b : World} (h : a.drew.grownBy b none) : a.grownBy b none := ⟨h.os, h.tape, h.output, h.size, h.block⟩

set_option maxRecDepth 100000 in
set_option maxHeartbeats 4000000 in
theorem sameRows_any (N : Nat) (hN : N ≤ 4) (b1 b2 : Nat) (va vb : Value) (rs : List (List Nat)) (hL : rs.length ≤ 4000) (w : World) (ha : ListAt w b1 N va rs) (hb : ListAt w b2 N vb rs) :
    Calls Tryd.prog 6 #[va, vb] w fun e w' => e = .returned (.bool true) ∧ w.grownBy w' none := by
  obtain ⟨a1, c1, rfl⟩ := ha.shape
  obtain ⟨a2, c2, rfl⟩ := hb.shape
  have Ha := Lib.hid ha
  have Hb := Lib.hid hb
  clear ha hb
  go_enter Tryd.func6, Tryd.ntmps6
  go_wp2_with fail
  go_loopw [5] (fun i wr => ∃ k : Nat, k ≤ rs.length ∧ i = .int .i64 k ∧ w.grownBy wr none) (fun i _ => rs.length - (RowKit.intOf i).toNat)
  case atStart => exact ⟨0, by omega, rfl, grownBy_refl _ _⟩
  case round =>
    obtain ⟨k, hk, rfl, hgr⟩ := hrel
    by_cases hlt : k < rs.length
    · obtain ⟨g, c, gi, ci, he, hc1, hi1⟩ := (Ha.out.kept hgr).at (by omega) hlt
      cases he
      obtain ⟨g2, c', gj, cj, he, hc2, hi2⟩ := (Hb.out.kept hgr).at (by omega) hlt
      cases he
      have ceq := fun w' (h : wr.grownBy w' none) => sameInts_any (some ⟨gi, 0, none⟩) (some ⟨gj, 0, none⟩) ci cj (rI (rs.getD k [])) (rI (rs.getD k [])) w' (hi1.grown h) (hi2.grown h)
      have hlr : (rI (rs.getD k [])).length = N + 1 := by
        obtain ⟨vals, _, h2⟩ := Ha.out
        obtain ⟨u, _, h4⟩ := h2 k hlt
        rw [rI_len]
        exact h4.1
      rw [sameL_self, hlr] at ceq
      have k0' : (0 : Int) ≤ (k : Int) := by omega
      have k1' : (k : Int) < (rs.length : Int) := by omega
      have hcd1 : wr.cell? ⟨g, k, none⟩ = some (.slice (some ⟨gi, 0, none⟩) (N + 1) ci) := hc1
      have hb0 : wr.drew.cell? ⟨g, k, none⟩ = some (.slice (some ⟨gi, 0, none⟩) (N + 1) ci) ∧ wr.drew.cell? ⟨g2, k, none⟩ = some (.slice (some ⟨gj, 0, none⟩) (N + 1) cj) ∧ wr.grownBy wr.drew none := ⟨hc1, hc2, grownBy_drew (grownBy_refl _ _)⟩
      clear hi1 hi2 hlr
      go_wp2_with fail
      go_region_held3 (fun w' => w'.cell? ⟨g, k, none⟩ = some (.slice (some ⟨gi, 0, none⟩) (N + 1) ci) ∧ w'.cell? ⟨g2, k, none⟩ = some (.slice (some ⟨gj, 0, none⟩) (N + 1) cj) ∧ wr.grownBy w' none) (first | exact hb0 | exact held2 (by assumption) gx | assumption)
        (first | (go_at_call 20; refine (ceq _ (heldE_g (by assumption))).mono ?_; rintro e wa ⟨rfl, gx⟩))
      all_goals
        go_wp2_with fail
      all_goals
        go_roundw
        case rel => exact ⟨k + 1, by omega, by go_num, grownBy_trans hgr (grownBy_undrew gx)⟩
        case measure => simp [RowKit.intOf]; omega
    · obtain rfl : k = rs.length := by omega
      go_wp2_with fail
      go_ret
      exact ⟨rfl, hgr⟩

/-- The steps, where there are rows at all. -/
def Nn (n : Int) : Nat := if inB n 1 4 = true then n.toNat else 0
theorem Nn_le (n : Int) : Nn n ≤ 4 := by
  unfold Nn
  split
  · rename_i h
    have := inB_of h
    omega
  · omega
theorem rowsM_len (n : Int) : (rowsM n).length ≤ 3125 := by
  cases h : inB n 1 4
  · rw [rowsM_f h]; simp
  · have h4 := inB_of h
    obtain ⟨N, rfl⟩ : ∃ N : Nat, n = N := ⟨n.toNat, by omega⟩
    rw [rowsM_t (by omega)]
    exact Nat.le_trans (outTo_len _) (pwN_small (by omega) (by omega))
theorem srows_all (n : Int) (w : World) : Calls Tryd.prog 7 #[.int .i64 n] w (RowsMPost (Nn n) (rowsM n) w) := by
  cases h : inB n 1 4
  · rw [rowsM_f h]
    refine (srows_no n w h).mono ?_
    rintro e w' ⟨v, rfl, ⟨vals, h1, _⟩, hg⟩
    exact ⟨v, rfl, ⟨vals, h1, fun i hi => absurd hi (by simp)⟩, hg⟩
  · have h4 := inB_of h
    obtain ⟨N, rfl⟩ : ∃ N : Nat, n = N := ⟨n.toNat, by omega⟩
    rw [rowsM_t (by omega)]
    have e : Nn (N : Int) = N := by unfold Nn; rw [if_pos h]; rfl
    rw [e]
    exact srows_yes N (by omega) w
theorem irows_all (n : Int) (w : World) : Calls Tryd.prog 5 #[.int .i64 n] w (RowsDPost (Nn n) (rowsM n) w) := by
  cases h : inB n 1 4
  · rw [rowsM_f h]
    refine (irows_no n w h).mono ?_
    rintro e w' ⟨v, rfl, ⟨vals, h1, _, h3⟩, hg⟩
    exact ⟨v, rfl, ⟨vals, h1, fun i hi => absurd hi (by simp), h3⟩, hg⟩
  · have h4 := inB_of h
    obtain ⟨N, rfl⟩ : ∃ N : Nat, n = N := ⟨n.toNat, by omega⟩
    rw [rowsM_t (by omega)]
    have e : Nn (N : Int) = N := by unfold Nn; rw [if_pos h]; rfl
    rw [e]
    exact irows_yes N (by omega) w

end Go.Proofs.YtakjlfcgciglgaaDoor
