/-
  The draws of formulas: some text of at most so many bytes. The code is of any length.
-/
import Derived.Test.YtlnffpofbfigaaaGreatDoorSDraw
import Derived.Deep.RegionWith
namespace Go.Proofs.YtlnffpofbfigaaaGreatDoor
open Go.RowKit

theorem Rd.drewn {w : World} {r P : Nat} (h : Rd w r P) : Rd w.drew r P := h.kept fun _ _ => rfl
theorem grownBy_undrew {a b : World} {row : Option Nat} (h : a.drew.grownBy b row) : a.grownBy b row := ⟨h.os, h.tape, h.output, h.size, h.block⟩
theorem cell_kept {w w' : World} {C : Array Value} {t : TypeId} {r k : Nat} {x : Value} (hg : (w.alloc (.cells C t)).grownBy w' (some r)) (hr : r < w.heap.size) (hC : C[k]? = some x) : w'.cell? ⟨w.heap.size, k, none⟩ = some x := by
  have hb := hg.block w.heap.size (by simp) (by simp; omega)
  rw [heap_alloc_new] at hb
  simp [World.cell?, hb, hC]
theorem cell_made {w : World} {C : Array Value} {t : TypeId} {k : Nat} {x : Value} (hC : C[k]? = some x) : (w.alloc (.cells C t)).cell? ⟨w.heap.size, k, none⟩ = some x := by
  rw [World.cell?_alloc_mark]; exact hC
theorem cell_stays {w1 w2 : World} {r b k : Nat} {x : Value} (h : w1.cell? ⟨b, k, none⟩ = some x) (hg : w1.grownBy w2 (some r)) (hne : r < b) : w2.cell? ⟨b, k, none⟩ = some x :=
  (World.cell?_of_block (hg.block b (World.block_lt_of_cell? w1 _ h) (by simp; omega))).trans h

theorem lit7 (k : Nat) (h : k < 7) : ∃ s : ByteArray, (#[.string ⟨#[97]⟩, .string ⟨#[98]⟩, .string ⟨#[97]⟩, .string ⟨#[98]⟩, .string ⟨#[99]⟩, .string ⟨#[49]⟩, .string ⟨#[48]⟩] : Array Value)[k]? = some (.string s) ∧ s.size = 1 := by
  match k, h with
  | 0, _ | 1, _ | 2, _ | 3, _ | 4, _ | 5, _ | 6, _ => exact ⟨_, rfl, rfl⟩
  | k + 7, h => omega
theorem lit6 (k : Nat) (h : k < 6) : ∃ s : ByteArray, (#[.string ⟨#[62]⟩, .string ⟨#[43]⟩, .string ⟨#[42]⟩, .string ⟨#[38]⟩, .string ⟨#[124]⟩, .string ⟨#[62]⟩] : Array Value)[k]? = some (.string s) ∧ s.size = 1 := by
  match k, h with
  | 0, _ | 1, _ | 2, _ | 3, _ | 4, _ | 5, _ => exact ⟨_, rfl, rfl⟩
  | k + 6, h => omega
theorem lit5 (k : Nat) (h : k < 5) : ∃ s : ByteArray, (#[.string ⟨#[]⟩, .string ⟨#[40]⟩, .string ⟨#[41]⟩, .string ⟨#[100]⟩, .string ⟨#[38]⟩] : Array Value)[k]? = some (.string s) ∧ s.size ≤ 1 := by
  match k, h with
  | 0, _ => exact ⟨_, rfl, by decide⟩
  | 1, _ | 2, _ | 3, _ | 4, _ => exact ⟨_, rfl, by decide⟩
  | k + 5, h => omega

theorem size_one (c : UInt8) : (⟨#[c]⟩ : ByteArray).size = 1 := rfl

def FoPost (L K r P : Nat) (w : World) (e : Ending) (w' : World) : Prop :=
  ∃ s : ByteArray, e = .returned (.string s) ∧ 1 ≤ s.size ∧ s.size ≤ L ∧ Rd w' r (P + K) ∧ w.grownBy w' (some r)
def FoOk (D : Int) (L K : Nat) : Prop := ∀ (w : World) (r P : Nat), Rd w r P → P + K ≤ 90000 →
  Calls Tryz.prog 121 #[.pointer (some ⟨r, 0, none⟩), .int .i64 D] w (FoPost L K r P w)

theorem FoPost.up {L K L' K' r P : Nat} {w : World} {e : Ending} {w' : World} (h : FoPost L K r P w e w') (hL : L ≤ L') (hK : K ≤ K') : FoPost L' K' r P w e w' := by
  obtain ⟨s, h1, h2, h3, h4, h5⟩ := h
  exact ⟨s, h1, h2, by omega, h4.mono (by omega), h5⟩

/-- One letter or truth: what is drawn where it goes no deeper. -/
theorem fo_zero : FoOk 0 1 1 := by
  intro w r P hr hP
  go_enter Tryz.func121, Tryz.ntmps121
  go_wp2_with fail
  refine (pick_any _ _ _ _ (hr.alloc _) (by omega)).mono ?_
  rintro e w1 ⟨k, rfl, hk0, hk1, hr1, hg1⟩
  obtain ⟨k, rfl⟩ := Int.eq_ofNat_of_zero_le hk0
  obtain ⟨s, hC, hs⟩ := lit7 k (by omega)
  have hlt : (k : Int) < 7 := by omega
  have hx := cell_kept hg1 hr.lt hC
  clear hC hk0 hk1
  go_wp2_with fail
  go_ret
  exact ⟨s, rfl, by omega, by omega, hr1, grownBy_trans (World.grownBy_alloc _ _ _) hg1⟩


set_option maxHeartbeats 4000000 in
theorem fo_step {D : Int} {L K : Nat} (hD : 1 ≤ D) (hD2 : D ≤ 10) (hL : 1 ≤ L) (hL2 : L ≤ 100) (hK2 : K ≤ 1000) (ih : FoOk (D - 1) L K) : FoOk D (2 * L + 3) (2 * K + 4) := by
  intro w r P hr hP
  have hd0 : (D == 0) = false := beq_eq_false_iff_ne.2 (by omega)
  have hm : maxLen = 9223372036854775807 := rfl
  go_enter Tryz.func121, Tryz.ntmps121
  go_wp2_with fail
  refine (pick_any _ _ _ _ hr (by omega)).mono ?_
  rintro e w1 ⟨k, rfl, hk0, hk1, hr1, hg1⟩
  by_cases h0 : k = 0
  · subst h0
    go_wp2_with fail
    refine (pick_any _ _ _ _ (hr1.alloc _) (by omega)).mono ?_
    rintro e w2 ⟨k, rfl, hk0, hk1, hr2, hg2⟩
    obtain ⟨k, rfl⟩ := Int.eq_ofNat_of_zero_le hk0
    obtain ⟨s, hC, hs⟩ := lit7 k (by omega)
    have hlt : (k : Int) < 7 := by omega
    have hx := cell_kept hg2 hr1.lt hC
    clear hC hk0 hk1
    go_wp2_with fail
    go_ret
    exact ⟨s, rfl, by omega, by omega, hr2.mono (by omega), grownBy_trans hg1 (grownBy_trans (World.grownBy_alloc _ _ _) hg2)⟩
  · have hb0 : (k == 0) = false := beq_eq_false_iff_ne.2 h0
    go_wp2_with fail
    refine (pick_any _ _ _ _ hr1 (by omega)).mono ?_
    rintro e w2 ⟨j, rfl, hj0, hj1, hr2, hg2⟩
    have hgg := grownBy_trans hg1 hg2
    clear hg1 hg2 hr1 hb0 h0 hk0 hk1
    by_cases h1 : j = 0
    · subst h1
      go_wp2_with fail
      refine (ih _ _ _ hr2 (by omega)).mono ?_
      rintro e w3 ⟨s, rfl, hs1, hs2, hr3, hg3⟩
      go_wp2_with fail
      go_ret
      exact ⟨_, rfl, by rw [ByteArray.size_append, size_one]; omega, by rw [ByteArray.size_append, size_one]; omega, hr3.mono (by omega), grownBy_trans hgg hg3⟩
    · have hb1 : (j == 0) = false := beq_eq_false_iff_ne.2 h1
      have hlt2 := hr2.lt
      have hwr : IntKind.i64.wrap (D - 1) = D - 1 := IntWalk.i64_in _ (by omega)
      clear h1 hj0 hj1
      go_wp2_with fail
      go_region_with (first
        | (go_at_call 41; refine (pick_any _ _ _ _ (by first | exact hra | exact hra.alloc _) (by omega)).mono ?_; rintro e wb ⟨kp, rfl, hkp, hlp, hrp, hgp⟩; obtain ⟨kp, rfl⟩ := Int.eq_ofNat_of_zero_le hkp; obtain ⟨u, hC, hu⟩ := lit6 kp (by omega); have hltp : (kp : Int) < 6 := (by omega); have q2 : ¬ (9223372036854775807 < 1 + s1.size + 1) := (by omega); have hmp := @cell_made wb _ 9 kp _ hC; have hltb := hrp.lt; first | have hx := cell_kept hgp hra.lt hC | have hx := cell_stays (cell_kept (grownBy_undrew hga) hlt2 hC) hgp hlt2 | skip)
        | (go_at_call 121; refine (ih _ _ _ (by first | exact hrp | exact hrp.alloc _) (by omega)).mono ?_; rintro e wc ⟨s2, rfl, hs21, hs22, hrc, hgc⟩; have q3 : ¬ (9223372036854775807 < 1 + s1.size + 1 + s2.size) := (by omega); have q4 : ¬ (9223372036854775807 < 1 + s1.size + 1 + s2.size + 1) := (by omega); have hmc := @cell_made wc _ 9 kp _ hC; first | have hy := cell_stays hx hgc (by omega) | have hy := cell_kept hgc hltb hC | skip)
        | (go_at_call 121; refine (ih _ _ _ (by first | exact hr2.drewn | exact (hr2.alloc _).drewn) (by omega)).mono ?_; rintro e wa ⟨s1, rfl, hs11, hs12, hra, hga⟩; have q1 : ¬ (9223372036854775807 < 1 + s1.size) := (by omega); have hlta := hra.lt))
      all_goals
        go_wp2_with fail
        go_ret
        refine ⟨_, rfl, ?_, ?_, ?_, ?_⟩
        · simp only [ByteArray.size_append, size_one]; omega
        · simp only [ByteArray.size_append, size_one]; omega
        · first | exact hrc.mono (by omega) | exact (hrc.alloc _).mono (by omega)
        · first
          | exact grownBy_trans hgg (grownBy_trans (World.grownBy_alloc _ _ _) (grownBy_trans (grownBy_undrew hga) (grownBy_trans hgp hgc)))
          | exact grownBy_trans hgg (grownBy_trans (grownBy_undrew hga) (grownBy_trans (World.grownBy_alloc _ _ _) (grownBy_trans hgp hgc)))
          | exact grownBy_trans hgg (grownBy_trans (grownBy_undrew hga) (grownBy_trans hgp (grownBy_trans (World.grownBy_alloc _ _ _) hgc)))
          | exact grownBy_trans hgg (grownBy_trans (grownBy_undrew hga) (grownBy_trans hgp (grownBy_trans hgc (World.grownBy_alloc _ _ _))))

end Go.Proofs.YtlnffpofbfigaaaGreatDoor
