/-
  impl's LaidOk and DeskOk: the library looks for a pair that is none.
-/
import Derived.Test.YtlnffpofbfigaaaGreatDoorFTree
import Derived.Test.YtlnffpofbfigaaaGreatDoorDRow
namespace Go.Proofs.YtlnffpofbfigaaaGreatDoor
open Go.RowKit

theorem ilaid_any (x : Ld) (w : World) :
    Calls Tryz.prog 78 #[ldV x] w fun e w' => e = .returned (.bool (ldB x)) ∧ w.grownBy w' none := by
  obtain ⟨n, s⟩ := x
  have hl : ldB (n, s) = (inB n 1 6 && isF s) := rfl
  have hb : bl (bs s) = s := rfl
  unfold ldV
  go_enter Tryz.func78, Tryz.ntmps78
  cases hn : inB n 1 6
  · go_wp2_with (first | (go_at_call 107; refine (steps_any _ _).mono ?_; rintro e w' ⟨rfl, rfl⟩))
    go_ret
    rw [hl, hn]
    exact ⟨rfl, World.grownBy_alloc _ _ none⟩
  · go_wp2_with (first | (go_at_call 107; refine (steps_any _ _).mono ?_; rintro e w' ⟨rfl, rfl⟩) | (go_at_call 55; refine (form_any _ _).mono ?_; rintro e w' ⟨rfl, hg⟩))
    go_ret
    rw [hl, hn]
    exact ⟨rfl, grownBy_trans (World.grownBy_alloc _ _ none) hg⟩

theorem ilit_any (x : Ld) (w : World) :
    Calls Tryz.prog 80 #[ldV x] w fun e w' => e = .returned (.bool (!ldB x)) ∧ w.grownBy w' none := by
  have cc := ilaid_any x
  unfold ldV at *
  go_enter Tryz.func80, Tryz.ntmps80
  go_wp2_with (first | (go_at_call 78; refine (cc _).mono ?_; rintro e w' ⟨rfl, hg⟩))
  go_ret
  exact ⟨rfl, grownBy_trans (World.grownBy_alloc _ _ none) hg⟩

theorem lds_no {l : List Ld} {k : Nat} (hk : k < l.length) (h : ldB (l.getD k nilLd) = false) : l.all ldB = false := by
  rw [List.all_eq_false]
  exact ⟨_, getLd_mem hk, by rw [h]; simp⟩
theorem lds_yes {l : List Ld} (h : ∀ j, j < l.length → ldB (l.getD j nilLd) = true) : l.all ldB = true := List.all_eq_true.2 (all_take h rfl)
def DIx (xs : List Ld) (w : World) (e : Ending) (w' : World) : Prop := ∃ r : Int, e = .returned (.int .i64 r) ∧ decide (r ≥ 0) = (!xs.all ldB) ∧ w.grownBy w' none

set_option maxHeartbeats 1000000 in
theorem dix_any (a : Option Addr) (cap : Nat) (xs : List Ld) (w : World) (h : LdsAt w a xs) :
    Calls Tryz.prog 117 #[.slice a xs.length cap, .func (.func 80) #[] #[]] w (DIx xs w) := by
  have hm := h.1
  unfold maxLen at hm
  have H := Lib.hid h
  clear h
  go_enter Tryz.func117, Tryz.ntmps117
  go_wp2_with fail
  go_loopw [8] (fun i wr => DkRel xs w i wr) (fun i _ => xs.length - (intOf i).toNat)
  case atStart => exact ⟨0, by omega, rfl, fun j hj => absurd hj (by omega), grownBy_refl _ _⟩
  case round =>
    obtain ⟨k, hk, rfl, hb, hgr⟩ := hrel
    have Hb := Lib.hid hb
    have Hgr := Lib.hid hgr
    clear hb hgr
    by_cases hlt : k < xs.length
    · rcases (H.out.grown Hgr.out).2 with h0 | ⟨bx, ox, rfl, hbx, hcx⟩
      · rw [h0] at hlt; simp at hlt
      obtain ⟨hc0, hc1⟩ := hcx k hlt
      clear hcx hbx
      cases hv : ldB (xs.getD k nilLd)
      · have hz := Lib.hid (lds_no hlt hv)
        generalize xs.getD k nilLd = q at *
        have cc := ilit_any q
        unfold ldV at cc
        go_wp2_with (first | (go_at_call 80; refine (cc _).mono ?_; rintro e w' ⟨rfl, hg⟩))
        go_ret
        exact ⟨_, rfl, by rw [hz.out]; exact decide_eq_true (by omega), grownBy_trans Hgr.out hg⟩
      · have hn : Hid (∀ j, j < k + 1 → ldB (xs.getD j nilLd) = true) := fun j hj => by
          by_cases e : j = k
          · rw [e]; exact hv
          · exact Hb.out j (by omega)
        generalize xs.getD k nilLd = q at *
        have cc := ilit_any q
        unfold ldV at cc
        go_wp2_with (first | (go_at_call 80; refine (cc _).mono ?_; rintro e w' ⟨rfl, hg⟩))
        go_roundw
        case rel => exact ⟨k + 1, by omega, by go_num, hn.out, grownBy_trans Hgr.out hg⟩
        case measure => simp [intOf]; omega
    · obtain rfl : k = xs.length := by omega
      have hz := Lib.hid (lds_yes Hb.out)
      go_wp2_with fail
      go_ret
      exact ⟨_, rfl, by rw [hz.out]; rfl, Hgr.out⟩

theorem dhas_any (a : Option Addr) (cap : Nat) (xs : List Ld) (w : World) (h : LdsAt w a xs) :
    Calls Tryz.prog 79 #[.slice a xs.length cap, .func (.func 80) #[] #[]] w fun e w' => e = .returned (.bool (!xs.all ldB)) ∧ w.grownBy w' none := by
  have c1 := dix_any a cap xs w h
  clear h
  go_enter Tryz.func79, Tryz.ntmps79
  go_wp2_with fail
  refine c1.mono ?_
  rintro e w' ⟨r, rfl, hr, hg⟩
  clear c1
  go_wp2_with fail
  go_ret
  exact ⟨by rw [← hr]; rfl, hg⟩

set_option maxHeartbeats 1000000 in
theorem idesk_any (d : Dk) (a : Option Addr) (cap : Nat) (w : World) (h : LdsAt w a d.2) :
    Calls Tryz.prog 23 #[dkV d a cap] w fun e w' => e = .returned (.bool (dkB d)) ∧ w.grownBy w' none := by
  obtain ⟨⟨n, s⟩, xs⟩ := d
  have hm := h.1
  change LdsAt w a xs at h
  change xs.length ≤ maxLen at hm
  unfold maxLen at hm
  have hd : dkB ((n, s), xs) = (xs.all ldB && (ldB (n, s) && decide (xs.length ≤ 8))) := rfl
  have hg1 : w.grownBy (w.alloc (.cells #[.int .i64 n, .string (bs s), .slice a xs.length cap] 32)) none := World.grownBy_alloc _ _ none
  have hB := CellsAt.new w #[.int .i64 n, .string (bs s), .slice a xs.length cap] 32
  have H1 := Lib.hid (h.grown hg1)
  have G1 := Lib.hid hg1
  have HB := Lib.hid hB
  clear h hg1 hB
  unfold dkV
  have cc := ilaid_any (n, s)
  unfold ldV at cc
  go_enter Tryz.func23, Tryz.ntmps23
  cases hl : ldB (n, s)
  · rw [hl] at cc hd
    go_wp2_with (first | (go_at_call 78; refine (cc _).mono ?_; rintro e w' ⟨rfl, hg⟩))
    go_ret
    exact ⟨by rw [hd]; simp, grownBy_trans G1.out hg⟩
  · rw [hl] at cc hd
    by_cases h8 : xs.length ≤ 8
    · rw [decide_eq_true h8] at hd
      have ch := fun w2 (hg : (w.alloc (.cells #[.int .i64 n, .string (bs s), .slice a xs.length cap] 32)).grownBy w2 none) => dhas_any a cap xs w2 (H1.out.grown hg)
      go_wp2_with (first | (go_at_call 78; refine (cc _).mono ?_; rintro e w' ⟨rfl, hg⟩; obtain ⟨hB0, hB1, hB2⟩ := (HB.out.grown hg).three) | (go_at_call 79; refine (ch _ hg).mono ?_; rintro e w' ⟨rfl, hg'⟩; replace hg := grownBy_trans hg hg'))
      go_ret
      exact ⟨by rw [hd]; simp, grownBy_trans G1.out hg⟩
    · rw [decide_eq_false h8] at hd
      go_wp2_with (first | (go_at_call 78; refine (cc _).mono ?_; rintro e w' ⟨rfl, hg⟩; obtain ⟨hB0, hB1, hB2⟩ := (HB.out.grown hg).three))
      go_ret
      exact ⟨by rw [hd]; simp, grownBy_trans G1.out hg⟩
theorem sdesk_is (d : Dk) (a : Option Addr) (cap : Nat) (w : World) (h : LdsAt w a d.2) :
    Calls Tryz.prog 13 #[dkV d a cap] w fun e w' => e = .returned (.bool (dkB d)) ∧ w.grownBy w' none := by
  obtain ⟨⟨n, s⟩, xs⟩ := d
  exact sdesk_any n s a cap xs w h

end Go.Proofs.YtlnffpofbfigaaaGreatDoor
