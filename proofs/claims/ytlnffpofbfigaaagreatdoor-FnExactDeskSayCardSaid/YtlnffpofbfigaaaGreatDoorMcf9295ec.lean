/-
  Joined out of the texts Draw3, Draw4, SDraw, FDraw, FDraw2: what each holds is told at its head.
-/
import Derived.Test.YtlnffpofbfigaaaGreatDoorMd507dfc2
import Derived.OpenShut
import Derived.Deep.RegionWith

/-
  What a slice of integers that came in is; the contract of l20Open: a new reader over the code's first 2000 bytes. The code is of any length.
-/
namespace Go.Proofs.YtlnffpofbfigaaaGreatDoor
open Go.RowKit

def IsRow (k : IntKind) (w : World) (a : Option Addr) (len cap : Nat) (zs : List Int) : Prop :=
  (a = none ∧ len = 0 ∧ cap = 0 ∧ zs = []) ∨
  ∃ x, a = some x ∧ len ≤ cap ∧ cap ≤ maxLen ∧ zs.length = cap ∧ (∀ i, i < zs.length → w.cell? (x.add i) = some (.int k (zs.getD i 0))) ∧ ∀ n ∈ zs, (Lit.int k n).wf = true

theorem byte_of (n : Int) (h : (Lit.int .u8 n).wf = true) : ∃ u : Nat, u ≤ 255 ∧ n = (u : Int) := by
  have hb := bounds_u8 h
  exact ⟨n.toNat, by omega, by omega⟩

/-- The bytes of a code, where there is one. -/
theorem IsRow.bytes {w : World} {a : Option Addr} {len cap : Nat} {zs : List Int} (h : IsRow .u8 w a len cap zs) (h0 : 0 < len) :
    ∃ b off, a = some ⟨b, off, none⟩ ∧ len ≤ cap ∧ cap ≤ maxLen ∧ b < w.heap.size ∧ ∀ i, i < len → ∃ u : Nat, u ≤ 255 ∧ w.cell? ⟨b, off + i, none⟩ = some (.int .u8 u) := by
  rcases h with ⟨_, h, _⟩ | ⟨x, rfl, hl, hm, hz, hcell, hwz⟩
  · omega
  · obtain ⟨b, off, spot⟩ := x
    have hc := hcell 0 (by omega)
    have hspot : spot = none := by simpa [Addr.add] using World.cell?_spot hc
    subst hspot
    refine ⟨b, off, rfl, hl, hm, by simpa [Addr.add] using World.block_lt_of_cell? w _ hc, fun i hi => ?_⟩
    have hci := hcell i (by omega)
    obtain ⟨u, hu, hun⟩ := byte_of (zs.getD i 0) (hwz _ (by rw [List.getD_eq_getElem?_getD, List.getElem?_eq_getElem (show i < zs.length by omega)]; exact List.getElem_mem _))
    rw [add_none, hun] at hci
    exact ⟨u, hu, hci⟩

def OpenPost (w : World) (e : Ending) (w' : World) : Prop :=
  e = .returned (.pointer (some ⟨w.heap.size, 0, none⟩)) ∧ Rd w' w.heap.size 0 ∧ w.grownBy w' none

theorem Rd.made (w : World) (a : Option Addr) (len cap : Nat) (t : TypeId) (hl : len ≤ 2000)
    (hz : len = 0 ∨ ∃ b off, a = some ⟨b, off, none⟩ ∧ b < w.heap.size ∧ ∀ i, i < len → ∃ u : Nat, u ≤ 255 ∧ w.cell? ⟨b, off + i, none⟩ = some (.int .u8 u)) :
    Rd (w.alloc (.cells #[.slice a len cap, .int .i64 0] t)) w.heap.size 0 := by
  have hn : (w.alloc (.cells #[.slice a len cap, .int .i64 0] t)).heap[w.heap.size]? = some (.cells #[.slice a len cap, .int .i64 0] t) := heap_alloc_new w _
  obtain ⟨c0, c1, f1⟩ := cells_two hn
  refine ⟨a, len, cap, 0, c0, c1, f1, Nat.le_refl _, hl, ?_⟩
  rcases hz with hz | ⟨b, off, ha, hb, hc⟩
  · exact .inl hz
  · refine .inr ⟨b, off, ha, hb, fun i hi => ?_⟩
    obtain ⟨u, hu, hcu⟩ := hc i hi
    exact ⟨u, hu, (World.cell?_of_block (w := w) (Below.heap_alloc w _ b hb)).trans hcu⟩

theorem open_draw (a : Option Addr) (len cap : Nat) (zs : List Int) (w : World) (h : IsRow .u8 w a len cap zs) :
    Calls Tryz.prog 38 #[.slice a len cap] w (OpenPost w) := by
  by_cases hl : len ≤ 2000
  · have hz : len = 0 ∨ ∃ b off, a = some ⟨b, off, none⟩ ∧ b < w.heap.size ∧ ∀ i, i < len → ∃ u : Nat, u ≤ 255 ∧ w.cell? ⟨b, off + i, none⟩ = some (.int .u8 u) := by
      by_cases h0 : len = 0
      · exact .inl h0
      · obtain ⟨b, off, ha, _, _, hb, hc⟩ := h.bytes (by omega)
        exact .inr ⟨b, off, ha, hb, hc⟩
    have hmade := Rd.made w a len cap 118 hl hz
    clear h hz
    go_enter Tryz.func38, Tryz.ntmps38
    go_wp2
    go_ret
    exact ⟨rfl, hmade, World.grownBy_alloc _ _ _⟩
  · obtain ⟨b, off, rfl, hlc, hcm, hb, hc⟩ := h.bytes (by omega)
    have hmade := Rd.made w (some ⟨b, off, none⟩) 2000 cap 118 (Nat.le_refl _) (.inr ⟨b, off, rfl, hb, fun i hi => hc i (by omega)⟩)
    clear h hc
    have hd : decide ((2000 : Int) < (len : Int)) = true := by simp; omega
    unfold maxLen at hcm
    go_enter Tryz.func38, Tryz.ntmps38
    go_wp2
    go_ret
    exact ⟨rfl, hmade, World.grownBy_alloc _ _ _⟩

end Go.Proofs.YtlnffpofbfigaaaGreatDoor

/-
  What a draw of two or three numbers answers; the contract of DrawLowestOf.
-/
namespace Go.Proofs.YtlnffpofbfigaaaGreatDoor
open Go.RowKit

end Go.Proofs.YtlnffpofbfigaaaGreatDoor

/-
  The draws of chapter 2.
-/
namespace Go.Proofs.YtlnffpofbfigaaaGreatDoor
open Go.RowKit

end Go.Proofs.YtlnffpofbfigaaaGreatDoor

/-
  The draws of formulas: some text of at most so many bytes. The code is of any length.
-/
namespace Go.Proofs.YtlnffpofbfigaaaGreatDoor
open Go.RowKit

theorem Rd.drewn {w : World} {r P : Nat} (h : Rd w r P) : Rd w.drew r P := h.kept fun _ _ => rfl
theorem grownBy_undrew {a b : World} {row : Option Nat} (h : a.drew.grownBy b row) : a.grownBy b row := ⟨h.os, h.tape, h.output, h.size, h.block⟩
theorem cell_keptD {w w' : World} {C : Array Value} {t : TypeId} {r k : Nat} {x : Value} (hg : (w.alloc (.cells C t)).grownBy w' (some r)) (hr : r < w.heap.size) (hC : C[k]? = some x) : w'.cell? ⟨w.heap.size, k, none⟩ = some x := by
  have hb := hg.block w.heap.size (by simp) (by simp; omega)
  rw [heap_alloc_new] at hb
  simp [World.cell?, hb, hC]
theorem cell_made {w : World} {C : Array Value} {t : TypeId} {k : Nat} {x : Value} (hC : C[k]? = some x) : (w.alloc (.cells C t)).cell? ⟨w.heap.size, k, none⟩ = some x := by
  rw [World.cell?_alloc_mark]; exact hC
theorem cell_stays {w1 w2 : World} {r b k : Nat} {x : Value} (h : w1.cell? ⟨b, k, none⟩ = some x) (hg : w1.grownBy w2 (some r)) (hne : r < b) : w2.cell? ⟨b, k, none⟩ = some x :=
  (World.cell?_of_block (hg.block b (World.block_lt_of_cell? w1 _ h) (by simp; omega))).trans h

theorem lit7 (k : Nat) (h : k < 7) : ∃ s : ByteArray, (#[.string ⟨#[97]⟩, .string ⟨#[98]⟩, .string ⟨#[97]⟩, .string ⟨#[98]⟩, .string ⟨#[99]⟩, .string ⟨#[49]⟩, .string ⟨#[48]⟩] : Array Value)[k]? = some (.string s) ∧ s.size = 1 := by
  match k, h with
  | 0, _ | 1, _ | 2, _ | 3, _ | 4, _ | 5, _ | 6, _ => exact ⟨_, rfl, rfl⟩
  | k + 7, h => omega
theorem lit6 (k : Nat) (h : k < 6) : ∃ s : ByteArray, (#[.string ⟨#[62]⟩, .string ⟨#[43]⟩, .string ⟨#[42]⟩, .string ⟨#[38]⟩, .string ⟨#[124]⟩, .string ⟨#[62]⟩] : Array Value)[k]? = some (.string s) ∧ s.size = 1 := by
  match k, h with
  | 0, _ | 1, _ | 2, _ | 3, _ | 4, _ | 5, _ => exact ⟨_, rfl, rfl⟩
  | k + 6, h => omega
theorem lit5 (k : Nat) (h : k < 5) : ∃ s : ByteArray, (#[.string ⟨#[]⟩, .string ⟨#[40]⟩, .string ⟨#[41]⟩, .string ⟨#[100]⟩, .string ⟨#[38]⟩] : Array Value)[k]? = some (.string s) ∧ s.size ≤ 1 := by
  match k, h with
  | 0, _ => exact ⟨_, rfl, by decide⟩
  | 1, _ | 2, _ | 3, _ | 4, _ => exact ⟨_, rfl, by decide⟩
  | k + 5, h => omega

theorem size_one (c : UInt8) : (⟨#[c]⟩ : ByteArray).size = 1 := rfl

def FoPost (L K r P : Nat) (w : World) (e : Ending) (w' : World) : Prop :=
  ∃ s : ByteArray, e = .returned (.string s) ∧ 1 ≤ s.size ∧ s.size ≤ L ∧ Rd w' r (P + K) ∧ w.grownBy w' (some r)
def FoOk (D : Int) (L K : Nat) : Prop := ∀ (w : World) (r P : Nat), Rd w r P → P + K ≤ 90000 →
  Calls Tryz.prog 121 #[.pointer (some ⟨r, 0, none⟩), .int .i64 D] w (FoPost L K r P w)

theorem FoPost.up {L K L' K' r P : Nat} {w : World} {e : Ending} {w' : World} (h : FoPost L K r P w e w') (hL : L ≤ L') (hK : K ≤ K') : FoPost L' K' r P w e w' := by
  obtain ⟨s, h1, h2, h3, h4, h5⟩ := h
  exact ⟨s, h1, h2, by omega, h4.mono (by omega), h5⟩

/-- One letter or truth: what is drawn where it goes no deeper. -/
theorem fo_zero : FoOk 0 1 1 := by
  intro w r P hr hP
  go_enter Tryz.func121, Tryz.ntmps121
  go_wp2_with fail
  refine (pick_any _ _ _ _ (hr.alloc _) (by omega)).mono ?_
  rintro e w1 ⟨k, rfl, hk0, hk1, hr1, hg1⟩
  obtain ⟨k, rfl⟩ := Int.eq_ofNat_of_zero_le hk0
  obtain ⟨s, hC, hs⟩ := lit7 k (by omega)
  have hlt : (k : Int) < 7 := by omega
  have hx := cell_keptD hg1 hr.lt hC
  clear hC hk0 hk1
  go_wp2_with fail
  go_ret
  exact ⟨s, rfl, by omega, by omega, hr1, grownBy_trans (World.grownBy_alloc _ _ _) hg1⟩

set_option maxHeartbeats 4000000 in
theorem fo_step {D : Int} {L K : Nat} (hD : 1 ≤ D) (hD2 : D ≤ 10) (hL : 1 ≤ L) (hL2 : L ≤ 100) (hK2 : K ≤ 1000) (ih : FoOk (D - 1) L K) : FoOk D (2 * L + 3) (2 * K + 4) := by
  intro w r P hr hP
  have hd0 : (D == 0) = false := beq_eq_false_iff_ne.2 (by omega)
  have hm : maxLen = 9223372036854775807 := rfl
  go_enter Tryz.func121, Tryz.ntmps121
  go_wp2_with fail
  refine (pick_any _ _ _ _ hr (by omega)).mono ?_
  rintro e w1 ⟨k, rfl, hk0, hk1, hr1, hg1⟩
  by_cases h0 : k = 0
  · subst h0
    go_wp2_with fail
    refine (pick_any _ _ _ _ (hr1.alloc _) (by omega)).mono ?_
    rintro e w2 ⟨k, rfl, hk0, hk1, hr2, hg2⟩
    obtain ⟨k, rfl⟩ := Int.eq_ofNat_of_zero_le hk0
    obtain ⟨s, hC, hs⟩ := lit7 k (by omega)
    have hlt : (k : Int) < 7 := by omega
    have hx := cell_keptD hg2 hr1.lt hC
    clear hC hk0 hk1
    go_wp2_with fail
    go_ret
    exact ⟨s, rfl, by omega, by omega, hr2.mono (by omega), grownBy_trans hg1 (grownBy_trans (World.grownBy_alloc _ _ _) hg2)⟩
  · have hb0 : (k == 0) = false := beq_eq_false_iff_ne.2 h0
    go_wp2_with fail
    refine (pick_any _ _ _ _ hr1 (by omega)).mono ?_
    rintro e w2 ⟨j, rfl, hj0, hj1, hr2, hg2⟩
    have hgg := grownBy_trans hg1 hg2
    clear hg1 hg2 hr1 hb0 h0 hk0 hk1
    by_cases h1 : j = 0
    · subst h1
      go_wp2_with fail
      refine (ih _ _ _ hr2 (by omega)).mono ?_
      rintro e w3 ⟨s, rfl, hs1, hs2, hr3, hg3⟩
      go_wp2_with fail
      go_ret
      exact ⟨_, rfl, by rw [ByteArray.size_append, size_one]; omega, by rw [ByteArray.size_append, size_one]; omega, hr3.mono (by omega), grownBy_trans hgg hg3⟩
    · have hb1 : (j == 0) = false := beq_eq_false_iff_ne.2 h1
      have hlt2 := hr2.lt
      have hwr : IntKind.i64.wrap (D - 1) = D - 1 := IntWalk.i64_in _ (by omega)
      clear h1 hj0 hj1
      go_wp2_with fail
      go_region_with (first
        | (go_at_call 41; refine (pick_any _ _ _ _ (by first | exact hra | exact hra.alloc _) (by omega)).mono ?_; rintro e wb ⟨kp, rfl, hkp, hlp, hrp, hgp⟩; obtain ⟨kp, rfl⟩ := Int.eq_ofNat_of_zero_le hkp; obtain ⟨u, hC, hu⟩ := lit6 kp (by omega); have hltp : (kp : Int) < 6 := (by omega); have q2 : ¬ (9223372036854775807 < 1 + s1.size + 1) := (by omega); have hmp := @cell_made wb _ 9 kp _ hC; have hltb := hrp.lt; first | have hx := cell_keptD hgp hra.lt hC | have hx := cell_stays (cell_keptD (grownBy_undrew hga) hlt2 hC) hgp hlt2 | skip)
        | (go_at_call 121; refine (ih _ _ _ (by first | exact hrp | exact hrp.alloc _) (by omega)).mono ?_; rintro e wc ⟨s2, rfl, hs21, hs22, hrc, hgc⟩; have q3 : ¬ (9223372036854775807 < 1 + s1.size + 1 + s2.size) := (by omega); have q4 : ¬ (9223372036854775807 < 1 + s1.size + 1 + s2.size + 1) := (by omega); have hmc := @cell_made wc _ 9 kp _ hC; first | have hy := cell_stays hx hgc (by omega) | have hy := cell_keptD hgc hltb hC | skip)
        | (go_at_call 121; refine (ih _ _ _ (by first | exact hr2.drewn | exact (hr2.alloc _).drewn) (by omega)).mono ?_; rintro e wa ⟨s1, rfl, hs11, hs12, hra, hga⟩; have q1 : ¬ (9223372036854775807 < 1 + s1.size) := (by omega); have hlta := hra.lt))
      all_goals
        go_wp2_with fail
        go_ret
        refine ⟨_, rfl, ?_, ?_, ?_, ?_⟩
        · simp only [ByteArray.size_append, size_one]; omega
        · simp only [ByteArray.size_append, size_one]; omega
        · first | exact hrc.mono (by omega) | exact (hrc.alloc _).mono (by omega)
        · first
          | exact grownBy_trans hgg (grownBy_trans (World.grownBy_alloc _ _ _) (grownBy_trans (grownBy_undrew hga) (grownBy_trans hgp hgc)))
          | exact grownBy_trans hgg (grownBy_trans (grownBy_undrew hga) (grownBy_trans (World.grownBy_alloc _ _ _) (grownBy_trans hgp hgc)))
          | exact grownBy_trans hgg (grownBy_trans (grownBy_undrew hga) (grownBy_trans hgp (grownBy_trans (World.grownBy_alloc _ _ _) hgc)))
          | exact grownBy_trans hgg (grownBy_trans (grownBy_undrew hga) (grownBy_trans hgp (grownBy_trans hgc (World.grownBy_alloc _ _ _))))

end Go.Proofs.YtlnffpofbfigaaaGreatDoor

/-
  The draws of chapter 4: some text of at most 60 bytes, some chain, some values.
-/
namespace Go.Proofs.YtlnffpofbfigaaaGreatDoor
open Go.RowKit

theorem fo_any {D : Int} (h : D = 1 ∨ D = 2 ∨ D = 3) : FoOk D 29 36 := by
  have f1 : FoOk 1 5 6 := fo_step (D := 1) (L := 1) (K := 1) (by omega) (by omega) (by omega) (by omega) (by omega) fo_zero
  have f2 : FoOk 2 13 16 := fo_step (D := 2) (L := 5) (K := 6) (by omega) (by omega) (by omega) (by omega) (by omega) f1
  have f3 : FoOk 3 29 36 := fo_step (D := 3) (L := 13) (K := 16) (by omega) (by omega) (by omega) (by omega) (by omega) f2
  rcases h with rfl | rfl | rfl
  · intro w r P hr hP; exact (f1 w r P hr (by omega)).mono fun e w' hp => hp.up (by omega) (by omega)
  · intro w r P hr hP; exact (f2 w r P hr (by omega)).mono fun e w' hp => hp.up (by omega) (by omega)
  · exact f3

def FmPost (r P : Nat) (w : World) (e : Ending) (w' : World) : Prop :=
  ∃ s : ByteArray, e = .returned (.string s) ∧ s.size ≤ 60 ∧ Rd w' r (P + 40) ∧ w.grownBy w' (some r)

set_option maxHeartbeats 4000000 in
theorem formed_draw (n : Int) (w : World) (r P : Nat) (hr : Rd w r P) (hP : P ≤ 80000) (hn : 1 ≤ n) (hn2 : n ≤ 1000) :
    Calls Tryz.prog 108 #[.pointer (some ⟨r, 0, none⟩), .int .i64 n] w (FmPost r P w) := by
  have hm : maxLen = 9223372036854775807 := rfl
  go_enter Tryz.func108, Tryz.ntmps108
  go_wp2_with fail
  refine (pick_any _ _ _ _ hr (by omega)).mono ?_
  rintro e w1 ⟨k, rfl, hk0, hk1, hr1, hg1⟩
  go_wp2_with fail
  refine (fo_any (D := 1 + k) (by omega) _ _ _ hr1 (by omega)).mono ?_
  rintro e w2 ⟨s, rfl, hs1, hs2, hr2, hg2⟩
  have hgg := grownBy_trans hg1 hg2
  clear hg1 hg2 hr1
  go_wp2_with fail
  refine (odd_any _ _ _ _ hr2 (by omega) hn hn2).mono ?_
  rintro e w3 ⟨b, rfl, hr3, hg3⟩
  replace hgg := grownBy_trans hgg hg3
  clear hg3 hr2
  cases b
  · go_wp2_with fail
    go_ret
    exact ⟨s, rfl, by omega, hr3.mono (by omega), hgg⟩
  · go_wp2_with fail
    refine (pick_any _ _ _ _ hr3 (by omega)).mono ?_
    rintro e w4 ⟨j, rfl, hj0, hj1, hr4, hg4⟩
    obtain ⟨j, rfl⟩ := Int.eq_ofNat_of_zero_le hj0
    have hjs : j + 1 ≤ s.size := by omega
    have hwr : IntKind.i64.wrap ((j : Int) + 1) = (j : Int) + 1 := IntWalk.i64_in _ (by omega)
    have hw0 : (0 : Int) ≤ (j : Int) + 1 := by omega
    have hw1 : ((j : Int) + 1).toNat = j + 1 := by omega
    have hw2 : (j : Int) + 1 ≤ (s.size : Int) := by omega
    have hw3 : (j : Int) ≤ (s.size : Int) := by omega
    have hlt4 := hr4.lt
    replace hgg := grownBy_trans hgg hg4
    clear hg4 hr3 hj0 hj1 hk0 hk1
    go_wp2_with fail
    go_region_with (go_at_call 41; refine (pick_any _ _ _ _ (by first | exact hr4.drewn | exact (hr4.alloc _).drewn) (by omega)).mono ?_; rintro e wb ⟨kp, rfl, hkp, hlp, hrp, hgp⟩; obtain ⟨kp, rfl⟩ := Int.eq_ofNat_of_zero_le hkp; obtain ⟨u, hC, hu⟩ := lit5 kp (by omega); have hltp : (kp : Int) < 5 := (by omega); have hmp := @cell_made wb _ 9 kp _ hC; first | have hx := cell_keptD (grownBy_undrew hgp) hlt4 hC | skip)
    all_goals
      go_wp2_with fail
      go_ret
      refine ⟨_, rfl, ?_, ?_, ?_⟩
      · simp only [ByteArray.size_append, ByteArray.size_extract]; omega
      · first | exact hrp.mono (by omega) | exact (hrp.alloc _).mono (by omega)
      · first
        | exact grownBy_trans hgg (grownBy_trans (World.grownBy_alloc _ _ _) (grownBy_undrew hgp))
        | exact grownBy_trans hgg (grownBy_trans (grownBy_undrew hgp) (World.grownBy_alloc _ _ _))

end Go.Proofs.YtlnffpofbfigaaaGreatDoor
