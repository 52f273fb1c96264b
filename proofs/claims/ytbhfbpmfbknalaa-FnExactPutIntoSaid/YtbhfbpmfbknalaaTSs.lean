/-
  The model's StrongOf.
-/
import Derived.Test.YtbhfbpmfbknalaaTSz
import Derived.Test.YtbhfbpmfbknalaaTReg
namespace Go.Proofs.Ytbhfbpmfbknalaa
open Go.RowKit

/-- Whether one of the first j truths that a place may become is true, or false. -/
def hiB (m k j : Nat) : Bool := (List.range j).any fun w => aboB k w && corB m w
def loB (m k j : Nat) : Bool := (List.range j).any fun w => aboB k w && !corB m w
def b2i (b : Bool) : Int := if b then 1 else 0
theorem hiB_step (m k j : Nat) : hiB m k (j + 1) = (hiB m k j || (aboB k j && corB m j)) := by unfold hiB; rw [List.range_succ, List.any_append]; simp
theorem loB_step (m k j : Nat) : loB m k (j + 1) = (loB m k j || (aboB k j && !corB m j)) := by unfold loB; rw [List.range_succ, List.any_append]; simp
theorem strK_eq (m k : Nat) : strK m k = if hiB m k 4 = false then 0 else if loB m k 4 = false then 2 else 1 := by
  unfold strK hiB loB
  cases (List.range 4).any fun w => aboB k w && corB m w <;> cases (List.range 4).any fun w => aboB k w && !corB m w <;> rfl
def SwRel (m k : Nat) (wo : World) (low high i : Value) (wr : World) : Prop :=
  ∃ j : Nat, j ≤ 4 ∧ i = .int .i64 j ∧ low = .int .i64 (b2i (loB m k j)) ∧ high = .int .i64 (b2i (hiB m k j)) ∧ wo = wr
theorem shr_tab : ((List.range 16).all fun m => ((m : Int) % 2 == 1) == corB m 0 && (((m : Int) / 2) % 2 == 1) == corB m 1 && (((m : Int) / 4) % 2 == 1) == corB m 2 && (((m : Int) / 8) % 2 == 1) == corB m 3) = true := by decide +kernel
theorem shr_at {m : Nat} (hm : m < 16) : ((m : Int) % 2 == 1) = corB m 0 ∧ (((m : Int) / 2) % 2 == 1) = corB m 1 ∧ (((m : Int) / 4) % 2 == 1) = corB m 2 ∧ (((m : Int) / 8) % 2 == 1) = corB m 3 := by
  have h := shr_tab
  rw [List.all_eq_true] at h
  have h := h m (List.mem_range.2 hm)
  simp only [Bool.and_eq_true, beq_iff_eq] at h
  exact ⟨h.1.1.1, h.1.1.2, h.1.2, h.2⟩

set_option maxHeartbeats 4000000 in
theorem sstr_yes (m : Nat) (hm : m < 16) (w : World) : Calls Try.prog 35 #[.int .i64 m] w (TabPost (strL m) w) := by
  obtain ⟨i0, hi, hz0, hz1, hz2⟩ := info_parts infoInt
  have hst := Lib.hid (sn_start (strK m) w)
  have ci := fun w => in_any (m : Int) 0 15 w
  rw [inB_t (by omega)] at ci
  have HM := Lib.hid hm
  have E := Lib.hid (shr_at hm)
  have hm0 : (0 : Int) ≤ (m : Int) := by omega
  have hm1 : (m : Int) ≤ 15 := by omega
  clear hm
  go_enter Try.func35, Try.ntmps35
  go_wp2_with fail
  go_loopw [4] (fun i wr => SnRel (strK m) w i wr) (fun i _ => 9 - (intOf i).toNat)
  case atStart => exact hst.out
  case round =>
    obtain ⟨k, hk, rfl, a, cap, hT, hown, hZ, hgr⟩ := hrel
    obtain ⟨wo, rfl⟩ : ∃ wo : World, wo = wr := ⟨_, rfl⟩
    by_cases hlt : k < 9
    · have n1 := hT.cell
      have hl1 := hT.lt
      have hk2 := own_k hown
      have Hs := Lib.hid (fun w3 v' ho hg => sn_step (w3 := w3) (v' := v') hlt hT hown hZ hgr ho hg)
      have HG := Lib.hid hgr.size
      have HK2 := Lib.hid hk2
      have HLT := Lib.hid hlt
      clear hown hZ hT hgr hk2 hk
      go_wp2_with (go_at_call 46; refine (ci _).mono ?_; rintro e w' ⟨rfl, rfl⟩)
      go_loopw [5, 6, 7] (fun low high i wx => SwRel m k wo low high i wx) (fun _ _ i _ => 4 - (intOf i).toNat)
      case atStart => exact ⟨0, by omega, rfl, rfl, rfl, rfl⟩
      case round =>
        obtain ⟨j, hj, rfl, rfl, rfl, rfl⟩ := hrel
        by_cases hlt2 : j < 4
        · obtain ⟨A, hA⟩ : ∃ A, A = k / 3 := ⟨_, rfl⟩
          obtain ⟨R, hR⟩ : ∃ R, R = k % 3 := ⟨_, rfl⟩
          have tA : (k : Int).tdiv 3 = (A : Int) := by rw [Int.tdiv_eq_ediv_of_nonneg (by omega)]; omega
          have tR : (k : Int).tmod 3 = (R : Int) := by rw [Int.tmod_eq_emod_of_nonneg (by omega)]; omega
          have eA : (k : Int) / 3 = (A : Int) := by omega
          have eR : (k : Int) % 3 = (R : Int) := by omega
          have hk9 : (k : Int) < 9 := by have := HLT.out; omega
          have hj4 : j = 0 ∨ j = 1 ∨ j = 2 ∨ j = 3 := by omega
          clear hlt2 hj
          rcases hj4 with rfl | rfl | rfl | rfl
          · have c1 : ∀ w, Calls Try.prog 58 #[.int .i64 (A : Int), .int .i64 0] w fun e w' => e = .returned (.bool (lsN A 0)) ∧ w = w' := fun w => by have := less10_any (A : Int) ((0 : Nat) : Int) w; rwa [lsZ_cast] at this
            have c2 : ∀ w, Calls Try.prog 58 #[.int .i64 (R : Int), .int .i64 0] w fun e w' => e = .returned (.bool (lsN R 0)) ∧ w = w' := fun w => by have := less10_any (R : Int) ((0 : Nat) : Int) w; rwa [lsZ_cast] at this
            have hl := Lib.hid (loB_step m k 0)
            have hh := Lib.hid (hiB_step m k 0)
            have hab : Hid (aboB k 0 = (lsN A 0 && lsN R 0)) := Lib.hid (by unfold aboB; rw [← hA, ← hR])
            have hcor := Lib.hid (E.out.1)
            clear hA hR
            cases g1 : lsN A 0
            · have hL := Lib.hid (show b2i (loB m k (0 + 1)) = b2i (loB m k 0) by rw [hl.out, hab.out, g1]; simp)
              have hH := Lib.hid (show b2i (hiB m k (0 + 1)) = b2i (hiB m k 0) by rw [hh.out, hab.out, g1]; simp)
              clear hl hh hab hcor
              go_wp2_with (first | (go_at_call 58; (with_reducible refine (c1 _).mono ?_); rintro e w' ⟨rfl, rfl⟩; (try rw [g1])) | (go_at_call 58; (with_reducible refine (c2 _).mono ?_); rintro e w' ⟨rfl, rfl⟩; (try rw [g2])))
              go_roundw
              case rel => exact ⟨0 + 1, by omega, rfl, by rw [hL.out], by rw [hH.out], rfl⟩
              case measure => simp [intOf]
            · cases g2 : lsN R 0
              · have hL := Lib.hid (show b2i (loB m k (0 + 1)) = b2i (loB m k 0) by rw [hl.out, hab.out, g1, g2]; simp)
                have hH := Lib.hid (show b2i (hiB m k (0 + 1)) = b2i (hiB m k 0) by rw [hh.out, hab.out, g1, g2]; simp)
                clear hl hh hab hcor
                go_wp2_with (first | (go_at_call 58; (with_reducible refine (c1 _).mono ?_); rintro e w' ⟨rfl, rfl⟩; (try rw [g1])) | (go_at_call 58; (with_reducible refine (c2 _).mono ?_); rintro e w' ⟨rfl, rfl⟩; (try rw [g2])))
                go_roundw
                case rel => exact ⟨0 + 1, by omega, rfl, by rw [hL.out], by rw [hH.out], rfl⟩
                case measure => simp [intOf]
              · cases g3 : corB m 0
                · have q1 : ((m : Int) % 2 == 1) = false := by rw [hcor.out, g3]
                  have q2 : ((m : Int).tmod 2 == 1) = false := by rw [Int.tmod_eq_emod_of_nonneg (by omega)]; exact q1
                  have hL := Lib.hid (show b2i (loB m k (0 + 1)) = 1 by rw [hl.out, hab.out, g1, g2, g3]; simp [b2i])
                  have hH := Lib.hid (show b2i (hiB m k (0 + 1)) = b2i (hiB m k 0) by rw [hh.out, hab.out, g1, g2, g3]; simp)
                  clear hl hh hab hcor
                  go_wp2_with (first | (go_at_call 58; (with_reducible refine (c1 _).mono ?_); rintro e w' ⟨rfl, rfl⟩; (try rw [g1])) | (go_at_call 58; (with_reducible refine (c2 _).mono ?_); rintro e w' ⟨rfl, rfl⟩; (try rw [g2])))
                  go_roundw
                  case rel => exact ⟨0 + 1, by omega, rfl, by rw [hL.out], by rw [hH.out], rfl⟩
                  case measure => simp [intOf]
                · have q1 : ((m : Int) % 2 == 1) = true := by rw [hcor.out, g3]
                  have q2 : ((m : Int).tmod 2 == 1) = true := by rw [Int.tmod_eq_emod_of_nonneg (by omega)]; exact q1
                  have hL := Lib.hid (show b2i (loB m k (0 + 1)) = b2i (loB m k 0) by rw [hl.out, hab.out, g1, g2, g3]; simp)
                  have hH := Lib.hid (show b2i (hiB m k (0 + 1)) = 1 by rw [hh.out, hab.out, g1, g2, g3]; simp [b2i])
                  clear hl hh hab hcor
                  go_wp2_with (first | (go_at_call 58; (with_reducible refine (c1 _).mono ?_); rintro e w' ⟨rfl, rfl⟩; (try rw [g1])) | (go_at_call 58; (with_reducible refine (c2 _).mono ?_); rintro e w' ⟨rfl, rfl⟩; (try rw [g2])))
                  go_roundw
                  case rel => exact ⟨0 + 1, by omega, rfl, by rw [hL.out], by rw [hH.out], rfl⟩
                  case measure => simp [intOf]
          · have c1 : ∀ w, Calls Try.prog 58 #[.int .i64 (A : Int), .int .i64 0] w fun e w' => e = .returned (.bool (lsN A 0)) ∧ w = w' := fun w => by have := less10_any (A : Int) ((0 : Nat) : Int) w; rwa [lsZ_cast] at this
            have c2 : ∀ w, Calls Try.prog 58 #[.int .i64 (R : Int), .int .i64 2] w fun e w' => e = .returned (.bool (lsN R 2)) ∧ w = w' := fun w => by have := less10_any (R : Int) ((2 : Nat) : Int) w; rwa [lsZ_cast] at this
            have hl := Lib.hid (loB_step m k 1)
            have hh := Lib.hid (hiB_step m k 1)
            have hab : Hid (aboB k 1 = (lsN A 0 && lsN R 2)) := Lib.hid (by unfold aboB; rw [← hA, ← hR])
            have hcor := Lib.hid (E.out.2.1)
            clear hA hR
            cases g1 : lsN A 0
            · have hL := Lib.hid (show b2i (loB m k (1 + 1)) = b2i (loB m k 1) by rw [hl.out, hab.out, g1]; simp)
              have hH := Lib.hid (show b2i (hiB m k (1 + 1)) = b2i (hiB m k 1) by rw [hh.out, hab.out, g1]; simp)
              clear hl hh hab hcor
              go_wp2_with (first | (go_at_call 58; (with_reducible refine (c1 _).mono ?_); rintro e w' ⟨rfl, rfl⟩; (try rw [g1])) | (go_at_call 58; (with_reducible refine (c2 _).mono ?_); rintro e w' ⟨rfl, rfl⟩; (try rw [g2])))
              go_roundw
              case rel => exact ⟨1 + 1, by omega, rfl, by rw [hL.out], by rw [hH.out], rfl⟩
              case measure => simp [intOf]
            · cases g2 : lsN R 2
              · have hL := Lib.hid (show b2i (loB m k (1 + 1)) = b2i (loB m k 1) by rw [hl.out, hab.out, g1, g2]; simp)
                have hH := Lib.hid (show b2i (hiB m k (1 + 1)) = b2i (hiB m k 1) by rw [hh.out, hab.out, g1, g2]; simp)
                clear hl hh hab hcor
                go_wp2_with (first | (go_at_call 58; (with_reducible refine (c1 _).mono ?_); rintro e w' ⟨rfl, rfl⟩; (try rw [g1])) | (go_at_call 58; (with_reducible refine (c2 _).mono ?_); rintro e w' ⟨rfl, rfl⟩; (try rw [g2])))
                go_roundw
                case rel => exact ⟨1 + 1, by omega, rfl, by rw [hL.out], by rw [hH.out], rfl⟩
                case measure => simp [intOf]
              · cases g3 : corB m 1
                · have q1 : (((m : Int) / 2) % 2 == 1) = false := by rw [hcor.out, g3]
                  have q2 : (((m : Int) / 2).tmod 2 == 1) = false := by rw [Int.tmod_eq_emod_of_nonneg (by omega)]; exact q1
                  have hL := Lib.hid (show b2i (loB m k (1 + 1)) = 1 by rw [hl.out, hab.out, g1, g2, g3]; simp [b2i])
                  have hH := Lib.hid (show b2i (hiB m k (1 + 1)) = b2i (hiB m k 1) by rw [hh.out, hab.out, g1, g2, g3]; simp)
                  clear hl hh hab hcor
                  go_wp2_with (first | (go_at_call 58; (with_reducible refine (c1 _).mono ?_); rintro e w' ⟨rfl, rfl⟩; (try rw [g1])) | (go_at_call 58; (with_reducible refine (c2 _).mono ?_); rintro e w' ⟨rfl, rfl⟩; (try rw [g2])))
                  go_roundw
                  case rel => exact ⟨1 + 1, by omega, rfl, by rw [hL.out], by rw [hH.out], rfl⟩
                  case measure => simp [intOf]
                · have q1 : (((m : Int) / 2) % 2 == 1) = true := by rw [hcor.out, g3]
                  have q2 : (((m : Int) / 2).tmod 2 == 1) = true := by rw [Int.tmod_eq_emod_of_nonneg (by omega)]; exact q1
                  have hL := Lib.hid (show b2i (loB m k (1 + 1)) = b2i (loB m k 1) by rw [hl.out, hab.out, g1, g2, g3]; simp)
                  have hH := Lib.hid (show b2i (hiB m k (1 + 1)) = 1 by rw [hh.out, hab.out, g1, g2, g3]; simp [b2i])
                  clear hl hh hab hcor
                  go_wp2_with (first | (go_at_call 58; (with_reducible refine (c1 _).mono ?_); rintro e w' ⟨rfl, rfl⟩; (try rw [g1])) | (go_at_call 58; (with_reducible refine (c2 _).mono ?_); rintro e w' ⟨rfl, rfl⟩; (try rw [g2])))
                  go_roundw
                  case rel => exact ⟨1 + 1, by omega, rfl, by rw [hL.out], by rw [hH.out], rfl⟩
                  case measure => simp [intOf]
          · have c1 : ∀ w, Calls Try.prog 58 #[.int .i64 (A : Int), .int .i64 2] w fun e w' => e = .returned (.bool (lsN A 2)) ∧ w = w' := fun w => by have := less10_any (A : Int) ((2 : Nat) : Int) w; rwa [lsZ_cast] at this
            have c2 : ∀ w, Calls Try.prog 58 #[.int .i64 (R : Int), .int .i64 0] w fun e w' => e = .returned (.bool (lsN R 0)) ∧ w = w' := fun w => by have := less10_any (R : Int) ((0 : Nat) : Int) w; rwa [lsZ_cast] at this
            have hl := Lib.hid (loB_step m k 2)
            have hh := Lib.hid (hiB_step m k 2)
            have hab : Hid (aboB k 2 = (lsN A 2 && lsN R 0)) := Lib.hid (by unfold aboB; rw [← hA, ← hR])
            have hcor := Lib.hid (E.out.2.2.1)
            clear hA hR
            cases g1 : lsN A 2
            · have hL := Lib.hid (show b2i (loB m k (2 + 1)) = b2i (loB m k 2) by rw [hl.out, hab.out, g1]; simp)
              have hH := Lib.hid (show b2i (hiB m k (2 + 1)) = b2i (hiB m k 2) by rw [hh.out, hab.out, g1]; simp)
              clear hl hh hab hcor
              go_wp2_with (first | (go_at_call 58; (with_reducible refine (c1 _).mono ?_); rintro e w' ⟨rfl, rfl⟩; (try rw [g1])) | (go_at_call 58; (with_reducible refine (c2 _).mono ?_); rintro e w' ⟨rfl, rfl⟩; (try rw [g2])))
              go_roundw
              case rel => exact ⟨2 + 1, by omega, rfl, by rw [hL.out], by rw [hH.out], rfl⟩
              case measure => simp [intOf]
            · cases g2 : lsN R 0
              · have hL := Lib.hid (show b2i (loB m k (2 + 1)) = b2i (loB m k 2) by rw [hl.out, hab.out, g1, g2]; simp)
                have hH := Lib.hid (show b2i (hiB m k (2 + 1)) = b2i (hiB m k 2) by rw [hh.out, hab.out, g1, g2]; simp)
                clear hl hh hab hcor
                go_wp2_with (first | (go_at_call 58; (with_reducible refine (c1 _).mono ?_); rintro e w' ⟨rfl, rfl⟩; (try rw [g1])) | (go_at_call 58; (with_reducible refine (c2 _).mono ?_); rintro e w' ⟨rfl, rfl⟩; (try rw [g2])))
                go_roundw
                case rel => exact ⟨2 + 1, by omega, rfl, by rw [hL.out], by rw [hH.out], rfl⟩
                case measure => simp [intOf]
              · cases g3 : corB m 2
                · have q1 : (((m : Int) / 4) % 2 == 1) = false := by rw [hcor.out, g3]
                  have q2 : (((m : Int) / 4).tmod 2 == 1) = false := by rw [Int.tmod_eq_emod_of_nonneg (by omega)]; exact q1
                  have hL := Lib.hid (show b2i (loB m k (2 + 1)) = 1 by rw [hl.out, hab.out, g1, g2, g3]; simp [b2i])
                  have hH := Lib.hid (show b2i (hiB m k (2 + 1)) = b2i (hiB m k 2) by rw [hh.out, hab.out, g1, g2, g3]; simp)
                  clear hl hh hab hcor
                  go_wp2_with (first | (go_at_call 58; (with_reducible refine (c1 _).mono ?_); rintro e w' ⟨rfl, rfl⟩; (try rw [g1])) | (go_at_call 58; (with_reducible refine (c2 _).mono ?_); rintro e w' ⟨rfl, rfl⟩; (try rw [g2])))
                  go_roundw
                  case rel => exact ⟨2 + 1, by omega, rfl, by rw [hL.out], by rw [hH.out], rfl⟩
                  case measure => simp [intOf]
                · have q1 : (((m : Int) / 4) % 2 == 1) = true := by rw [hcor.out, g3]
                  have q2 : (((m : Int) / 4).tmod 2 == 1) = true := by rw [Int.tmod_eq_emod_of_nonneg (by omega)]; exact q1
                  have hL := Lib.hid (show b2i (loB m k (2 + 1)) = b2i (loB m k 2) by rw [hl.out, hab.out, g1, g2, g3]; simp)
                  have hH := Lib.hid (show b2i (hiB m k (2 + 1)) = 1 by rw [hh.out, hab.out, g1, g2, g3]; simp [b2i])
                  clear hl hh hab hcor
                  go_wp2_with (first | (go_at_call 58; (with_reducible refine (c1 _).mono ?_); rintro e w' ⟨rfl, rfl⟩; (try rw [g1])) | (go_at_call 58; (with_reducible refine (c2 _).mono ?_); rintro e w' ⟨rfl, rfl⟩; (try rw [g2])))
                  go_roundw
                  case rel => exact ⟨2 + 1, by omega, rfl, by rw [hL.out], by rw [hH.out], rfl⟩
                  case measure => simp [intOf]
          · have c1 : ∀ w, Calls Try.prog 58 #[.int .i64 (A : Int), .int .i64 2] w fun e w' => e = .returned (.bool (lsN A 2)) ∧ w = w' := fun w => by have := less10_any (A : Int) ((2 : Nat) : Int) w; rwa [lsZ_cast] at this
            have c2 : ∀ w, Calls Try.prog 58 #[.int .i64 (R : Int), .int .i64 2] w fun e w' => e = .returned (.bool (lsN R 2)) ∧ w = w' := fun w => by have := less10_any (R : Int) ((2 : Nat) : Int) w; rwa [lsZ_cast] at this
            have hl := Lib.hid (loB_step m k 3)
            have hh := Lib.hid (hiB_step m k 3)
            have hab : Hid (aboB k 3 = (lsN A 2 && lsN R 2)) := Lib.hid (by unfold aboB; rw [← hA, ← hR])
            have hcor := Lib.hid (E.out.2.2.2)
            clear hA hR
            cases g1 : lsN A 2
            · have hL := Lib.hid (show b2i (loB m k (3 + 1)) = b2i (loB m k 3) by rw [hl.out, hab.out, g1]; simp)
              have hH := Lib.hid (show b2i (hiB m k (3 + 1)) = b2i (hiB m k 3) by rw [hh.out, hab.out, g1]; simp)
              clear hl hh hab hcor
              go_wp2_with (first | (go_at_call 58; (with_reducible refine (c1 _).mono ?_); rintro e w' ⟨rfl, rfl⟩; (try rw [g1])) | (go_at_call 58; (with_reducible refine (c2 _).mono ?_); rintro e w' ⟨rfl, rfl⟩; (try rw [g2])))
              go_roundw
              case rel => exact ⟨3 + 1, by omega, rfl, by rw [hL.out], by rw [hH.out], rfl⟩
              case measure => simp [intOf]
            · cases g2 : lsN R 2
              · have hL := Lib.hid (show b2i (loB m k (3 + 1)) = b2i (loB m k 3) by rw [hl.out, hab.out, g1, g2]; simp)
                have hH := Lib.hid (show b2i (hiB m k (3 + 1)) = b2i (hiB m k 3) by rw [hh.out, hab.out, g1, g2]; simp)
                clear hl hh hab hcor
                go_wp2_with (first | (go_at_call 58; (with_reducible refine (c1 _).mono ?_); rintro e w' ⟨rfl, rfl⟩; (try rw [g1])) | (go_at_call 58; (with_reducible refine (c2 _).mono ?_); rintro e w' ⟨rfl, rfl⟩; (try rw [g2])))
                go_roundw
                case rel => exact ⟨3 + 1, by omega, rfl, by rw [hL.out], by rw [hH.out], rfl⟩
                case measure => simp [intOf]
              · cases g3 : corB m 3
                · have q1 : (((m : Int) / 8) % 2 == 1) = false := by rw [hcor.out, g3]
                  have q2 : (((m : Int) / 8).tmod 2 == 1) = false := by rw [Int.tmod_eq_emod_of_nonneg (by omega)]; exact q1
                  have hL := Lib.hid (show b2i (loB m k (3 + 1)) = 1 by rw [hl.out, hab.out, g1, g2, g3]; simp [b2i])
                  have hH := Lib.hid (show b2i (hiB m k (3 + 1)) = b2i (hiB m k 3) by rw [hh.out, hab.out, g1, g2, g3]; simp)
                  clear hl hh hab hcor
                  go_wp2_with (first | (go_at_call 58; (with_reducible refine (c1 _).mono ?_); rintro e w' ⟨rfl, rfl⟩; (try rw [g1])) | (go_at_call 58; (with_reducible refine (c2 _).mono ?_); rintro e w' ⟨rfl, rfl⟩; (try rw [g2])))
                  go_roundw
                  case rel => exact ⟨3 + 1, by omega, rfl, by rw [hL.out], by rw [hH.out], rfl⟩
                  case measure => simp [intOf]
                · have q1 : (((m : Int) / 8) % 2 == 1) = true := by rw [hcor.out, g3]
                  have q2 : (((m : Int) / 8).tmod 2 == 1) = true := by rw [Int.tmod_eq_emod_of_nonneg (by omega)]; exact q1
                  have hL := Lib.hid (show b2i (loB m k (3 + 1)) = b2i (loB m k 3) by rw [hl.out, hab.out, g1, g2, g3]; simp)
                  have hH := Lib.hid (show b2i (hiB m k (3 + 1)) = 1 by rw [hh.out, hab.out, g1, g2, g3]; simp [b2i])
                  clear hl hh hab hcor
                  go_wp2_with (first | (go_at_call 58; (with_reducible refine (c1 _).mono ?_); rintro e w' ⟨rfl, rfl⟩; (try rw [g1])) | (go_at_call 58; (with_reducible refine (c2 _).mono ?_); rintro e w' ⟨rfl, rfl⟩; (try rw [g2])))
                  go_roundw
                  case rel => exact ⟨3 + 1, by omega, rfl, by rw [hL.out], by rw [hH.out], rfl⟩
                  case measure => simp [intOf]
        · obtain rfl : j = 4 := by omega
          have hS := Lib.hid (strK_eq m k)
          clear hj hlt2
          cases h1 : hiB m k 4
          · cases h2 : loB m k 4
            · have q1 : (b2i (hiB m k 4) == 0) = true := by rw [h1]; rfl
              have q2 : (b2i (loB m k 4) == 0) = true := by rw [h2]; rfl
              have hv := Lib.hid (show strK m k = 0 by rw [hS.out, h1, h2]; rfl)
              clear hS h1 h2
              go_wp2_with (at_builtin; refine wpList_append_own _ rfl _ _ 23 rfl (w.heap.size + 2) 3 i0 (.int .i64 0) 1 8 Try.underlying23 hi hz0 hz1 hz2 rfl (by decide) _ _ _ rfl (World.ownsRow.alloc HK2.out _) ⟨wo.heap.size, 0, none⟩ 1 1 [.int .i64 (strK m k)] rfl (by simp only [hv.out]; rfl) ?c01 ?c02 ?c03 ?c04 ?c05 ?_)
              case c01 =>
                intro j u hj
                match j, hj with
                | 0, hj => simp at hj; subst hj; rw [hv.out]; simp [Addr.add]
              case c02 => intro u hu; simp at hu; subst hu; rfl
              case c03 => have := HLT.out; unfold maxLen; omega
              case c04 => have := HLT.out; omega
              case c05 => simp; omega
              intro v' w3 hown' hgrow _
              obtain ⟨a', cap', rfl, q1, q2, RR⟩ := Hs.out w3 v' (by rw [lK_len]; exact hown') (by rw [lK_len]; exact grow_box hgrow)
              have HR := Lib.hid RR
              clear RR hown' hgrow
              go_wp2
              go_roundw
              case rel => exact HR.out
              case measure => have := HLT.out; simp [intOf]; omega
            · have q1 : (b2i (hiB m k 4) == 0) = true := by rw [h1]; rfl
              have q2 : (b2i (loB m k 4) == 0) = false := by rw [h2]; rfl
              have hv := Lib.hid (show strK m k = 0 by rw [hS.out, h1, h2]; rfl)
              clear hS h1 h2
              go_wp2_with (at_builtin; refine wpList_append_own _ rfl _ _ 23 rfl (w.heap.size + 2) 3 i0 (.int .i64 0) 1 8 Try.underlying23 hi hz0 hz1 hz2 rfl (by decide) _ _ _ rfl (World.ownsRow.alloc HK2.out _) ⟨wo.heap.size, 0, none⟩ 1 1 [.int .i64 (strK m k)] rfl (by simp only [hv.out]; rfl) ?d01 ?d02 ?d03 ?d04 ?d05 ?_)
              case d01 =>
                intro j u hj
                match j, hj with
                | 0, hj => simp at hj; subst hj; rw [hv.out]; simp [Addr.add]
              case d02 => intro u hu; simp at hu; subst hu; rfl
              case d03 => have := HLT.out; unfold maxLen; omega
              case d04 => have := HLT.out; omega
              case d05 => simp; omega
              intro v' w3 hown' hgrow _
              obtain ⟨a', cap', rfl, q1, q2, RR⟩ := Hs.out w3 v' (by rw [lK_len]; exact hown') (by rw [lK_len]; exact grow_box hgrow)
              have HR := Lib.hid RR
              clear RR hown' hgrow
              go_wp2
              go_roundw
              case rel => exact HR.out
              case measure => have := HLT.out; simp [intOf]; omega
          · cases h2 : loB m k 4
            · have q1 : (b2i (hiB m k 4) == 0) = false := by rw [h1]; rfl
              have q2 : (b2i (loB m k 4) == 0) = true := by rw [h2]; rfl
              have hv := Lib.hid (show strK m k = 2 by rw [hS.out, h1, h2]; rfl)
              clear hS h1 h2
              go_wp2_with (at_builtin; refine wpList_append_own _ rfl _ _ 23 rfl (w.heap.size + 2) 3 i0 (.int .i64 0) 1 8 Try.underlying23 hi hz0 hz1 hz2 rfl (by decide) _ _ _ rfl (World.ownsRow.alloc HK2.out _) ⟨wo.heap.size, 0, none⟩ 1 1 [.int .i64 (strK m k)] rfl (by simp only [hv.out]; rfl) ?c21 ?c22 ?c23 ?c24 ?c25 ?_)
              case c21 =>
                intro j u hj
                match j, hj with
                | 0, hj => simp at hj; subst hj; rw [hv.out]; simp [Addr.add]
              case c22 => intro u hu; simp at hu; subst hu; rfl
              case c23 => have := HLT.out; unfold maxLen; omega
              case c24 => have := HLT.out; omega
              case c25 => simp; omega
              intro v' w3 hown' hgrow _
              obtain ⟨a', cap', rfl, q1, q2, RR⟩ := Hs.out w3 v' (by rw [lK_len]; exact hown') (by rw [lK_len]; exact grow_box hgrow)
              have HR := Lib.hid RR
              clear RR hown' hgrow
              go_wp2
              go_roundw
              case rel => exact HR.out
              case measure => have := HLT.out; simp [intOf]; omega
            · have q1 : (b2i (hiB m k 4) == 0) = false := by rw [h1]; rfl
              have q2 : (b2i (loB m k 4) == 0) = false := by rw [h2]; rfl
              have hv := Lib.hid (show strK m k = 1 by rw [hS.out, h1, h2]; rfl)
              clear hS h1 h2
              go_wp2_with (at_builtin; refine wpList_append_own _ rfl _ _ 23 rfl (w.heap.size + 2) 3 i0 (.int .i64 0) 1 8 Try.underlying23 hi hz0 hz1 hz2 rfl (by decide) _ _ _ rfl (World.ownsRow.alloc HK2.out _) ⟨wo.heap.size, 0, none⟩ 1 1 [.int .i64 (strK m k)] rfl (by simp only [hv.out]; rfl) ?c11 ?c12 ?c13 ?c14 ?c15 ?_)
              case c11 =>
                intro j u hj
                match j, hj with
                | 0, hj => simp at hj; subst hj; rw [hv.out]; simp [Addr.add]
              case c12 => intro u hu; simp at hu; subst hu; rfl
              case c13 => have := HLT.out; unfold maxLen; omega
              case c14 => have := HLT.out; omega
              case c15 => simp; omega
              intro v' w3 hown' hgrow _
              obtain ⟨a', cap', rfl, q1, q2, RR⟩ := Hs.out w3 v' (by rw [lK_len]; exact hown') (by rw [lK_len]; exact grow_box hgrow)
              have HR := Lib.hid RR
              clear RR hown' hgrow
              go_wp2
              go_roundw
              case rel => exact HR.out
              case measure => have := HLT.out; simp [intOf]; omega
    · obtain rfl : k = 9 := by omega
      have n1 := hT.cell
      have n0 := hZ.cell
      have d0 := hZ.free
      have hO2 : OwnI (wo.setCell ⟨w.heap.size, 0, none⟩ (.slice a 9 cap)) w.heap.size a cap (strL m) := by
        refine own_lower (World.ownsRow.kept hown (grownBy_set wo w.heap.size 0 _) (.inr fun e => ?_)) (by omega)
        have := World.ownsRow.lt hown _ e
        omega
      have HO := Lib.hid hO2
      have HG := Lib.hid (grow_at hgr (grownBy_set wo w.heap.size 0 (.slice a 9 cap)) (Nat.le_refl _))
      have HZ := Lib.hid (T1.set (w := wo) (v := .slice a 9 cap) hZ)
      clear hT hown hZ hgr hO2
      go_wp2_with fail
      exact bodyPost_ret (resT1 rfl _ rfl HZ.out) rfl ⟨a, cap, by rfl, HO.out, HG.out⟩

theorem sstr_no (n : Int) (h : ¬ (0 ≤ n ∧ n ≤ 15)) (w : World) : Calls Try.prog 35 #[.int .i64 n] w (TabPost [] w) := by
  have hst := Lib.hid (snz_start w)
  have ci := fun w => in_any n 0 15 w
  rw [inB_f (by omega)] at ci
  clear h
  go_enter Try.func35, Try.ntmps35
  go_wp2_with fail
  go_loopw [4] (fun i wr => SnZ w i wr) (fun i _ => 9 - (intOf i).toNat)
  case atStart => exact hst.out
  case round =>
    obtain ⟨rfl, hT, hZ, hgr⟩ := hrel
    have n1 := hT.cell
    have n0 := hZ.cell
    have d0 := hZ.free
    have HG := Lib.hid (grow_at hgr (grownBy_set wr w.heap.size 0 (.slice none 0 0)) (Nat.le_refl _))
    have HZ := Lib.hid (T1.set (w := wr) (v := .slice none 0 0) hZ)
    clear hT hZ hgr
    go_wp2_with (go_at_call 46; refine (ci _).mono ?_; rintro e w' ⟨rfl, rfl⟩)
    exact bodyPost_ret (resT1 rfl _ rfl HZ.out) rfl ⟨none, 0, rfl, OwnI.nil _ _, HG.out⟩

theorem sstr_any (n : Int) (w : World) : Calls Try.prog 35 #[.int .i64 n] w (TabPost (strR n) w) := by
  by_cases h : 0 ≤ n ∧ n ≤ 15
  · obtain ⟨m, rfl⟩ := Int.eq_ofNat_of_zero_le h.1
    have e : strR (m : Int) = strL m := if_pos h
    rw [e]
    exact sstr_yes m (by omega) w
  · have e : strR n = [] := if_neg h
    rw [e]
    exact sstr_no n h w

end Go.Proofs.Ytbhfbpmfbknalaa
