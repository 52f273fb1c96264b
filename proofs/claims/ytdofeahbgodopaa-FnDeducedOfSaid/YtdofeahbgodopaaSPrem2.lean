/-
  The model's CountTrue and FollowsFrom. No condition.
-/
import Derived.Test.YtdofeahbgodopaaSPrem
namespace Go.Proofs.Ytdofeahbgodopaa
open Go.RowKit

theorem scount_no1 (n : Int) (a : Option Addr) (cap : Nat) (ss : List ByteArray) (w : World) (h : StrsAt w a ss) (ho : premB (ss.map bl) = false) :
    Calls Try.prog 24 #[.int .i64 n, .slice a ss.length cap] w fun e w' => e = .returned (.int .i64 (-1)) ∧ w = w' := by
  have cp := sprem_any a cap ss w h
  rw [ho] at cp
  clear h ho
  go_enter Try.func24, Try.ntmps24
  go_wp2_with (go_at_call 15; refine cp.mono ?_; clear cp; rintro e w1 ⟨rfl, rfl⟩)
  go_ret
  exact ⟨rfl, rfl⟩
theorem scount_no2 (n : Int) (a : Option Addr) (cap : Nat) (ss : List ByteArray) (w : World) (h : StrsAt w a ss) (ho : premB (ss.map bl) = true) (hi : inB n 1 6 = false) :
    Calls Try.prog 24 #[.int .i64 n, .slice a ss.length cap] w fun e w' => e = .returned (.int .i64 (-1)) ∧ w = w' := by
  have cp := sprem_any a cap ss w h
  have ci := in_any n 1 6 w
  rw [ho] at cp
  rw [hi] at ci
  clear h ho hi
  go_enter Try.func24, Try.ntmps24
  go_wp2_with (first | (go_at_call 15; refine cp.mono ?_; clear cp; rintro e w1 ⟨rfl, rfl⟩) | (go_at_call 50; refine ci.mono ?_; clear ci; rintro e w1 ⟨rfl, rfl⟩))
  go_ret
  exact ⟨rfl, rfl⟩

def ScRel (N : Nat) (ts : List Tr) (w : World) (m i : Value) (wr : World) : Prop := ∃ k : Nat, k ≤ cub N ∧ i = .int .i64 k ∧ m = .int .i64 (cntK N ts k) ∧ w.grownBy wr none

set_option maxRecDepth 100000 in
set_option maxHeartbeats 4000000 in
theorem scount_yes (N : Nat) (hN : 1 ≤ N ∧ N ≤ 6) (a : Option Addr) (cap : Nat) (ss : List ByteArray) (w : World) (h : StrsAt w a ss) {ts : List Tr} (ho : prOf (ss.map bl) = some ts) :
    Calls Try.prog 24 #[.int .i64 N, .slice a ss.length cap] w fun e w' => e = .returned (.int .i64 (cntK N ts (cub N))) ∧ w.grownBy w' none := by
  have cp := sprem_any a cap ss w h
  rw [premB_t ho] at cp
  have ci := in_any N 1 6 w
  rw [inB_t (n := N) (by omega)] at ci
  have Hh := Lib.hid h
  have Ho := Lib.hid ho
  clear h ho
  have hc := cub_le hN.2
  obtain ⟨M, m1, m2⟩ := cub_q hN
  have m0 : ¬ ((N : Int) + 1 = 0) := by omega
  go_enter Try.func24, Try.ntmps24
  go_wp2_with (first | (go_at_call 15; refine cp.mono ?_; clear cp; rintro e w1 ⟨rfl, rfl⟩) | (go_at_call 50; refine ci.mono ?_; clear ci; rintro e w1 ⟨rfl, rfl⟩))
  go_loopw [5, 7] (fun m i wr => ScRel N ts w m i wr) (fun _ i _ => cub N - (intOf i).toNat)
  case atStart => exact ⟨0, by omega, rfl, rfl, grownBy_refl _ _⟩
  case round =>
    obtain ⟨k, hk, rfl, rfl, hgr⟩ := hrel
    by_cases hlt : k < cub N
    · obtain ⟨D, d0, d1, p0, p1, p2, p3⟩ := place_q hlt
      have a0 := tA_le N k
      have b0 := tB_le N k
      have c0 := tC_le N k
      have z1 : IntKind.i64.wrap D = D := IntWalk.i64_in _ (by omega)
      have z2 : IntKind.i64.wrap (tA N k : Int) = tA N k := IntWalk.i64_in _ (by omega)
      have z3 : IntKind.i64.wrap (tB N k : Int) = tB N k := IntWalk.i64_in _ (by omega)
      have z4 : IntKind.i64.wrap (tC N k : Int) = tC N k := IntWalk.i64_in _ (by omega)
      have hh := Hh.out.grown (grownBy_drew hgr)
      have cv := sall_any N hN k a cap ss ts Ho.out wr.drew hh
      have hle := cntK_le N ts k
      clear hh
      cases hv : allK N ts k
      · rw [hv] at cv
        have e := Lib.hid (cntK_miss hv)
        clear hv
        generalize cntK N ts k = q at *
        go_wp2
        go_region_held3 (fun w' => w.grownBy w' none) (first | exact grownBy_drew hgr | assumption) (first | (go_at_call 48; refine cv.mono ?_; rintro e w2 ⟨rfl, rfl⟩))
        go_wp2
        go_roundw
        case rel => exact ⟨k + 1, by omega, by go_num, by rw [e.out], grownBy_drew hgr⟩
        case measure => simp [intOf]; omega
      · rw [hv] at cv
        have e := Lib.hid (cntK_hit hv)
        clear hv
        generalize cntK N ts k = q at *
        go_wp2
        go_region_held3 (fun w' => w.grownBy w' none) (first | exact grownBy_drew hgr | assumption) (first | (go_at_call 48; refine cv.mono ?_; rintro e w2 ⟨rfl, rfl⟩))
        go_wp2
        go_roundw
        case rel => exact ⟨k + 1, by omega, by go_num, by rw [e.out]; go_num, grownBy_drew hgr⟩
        case measure => simp [intOf]; omega
    · obtain rfl : k = cub N := by omega
      go_wp2
      go_ret
      exact ⟨rfl, hgr⟩

theorem scount_any (n : Int) (a : Option Addr) (cap : Nat) (ss : List ByteArray) (w : World) (h : StrsAt w a ss) :
    Calls Try.prog 24 #[.int .i64 n, .slice a ss.length cap] w fun e w' => e = .returned (.int .i64 (cntI n (ss.map bl))) ∧ w.grownBy w' none := by
  cases ho : prOf (ss.map bl) with
  | none => rw [cntI_p ho]; exact (scount_no1 n a cap ss w h (premB_f ho)).mono fun e w' ⟨h1, h2⟩ => ⟨h1, by rw [h2]; exact grownBy_refl _ _⟩
  | some ts =>
    cases hi : inB n 1 6
    · rw [cntI_o hi]; exact (scount_no2 n a cap ss w h (premB_t ho) hi).mono fun e w' ⟨h1, h2⟩ => ⟨h1, by rw [h2]; exact grownBy_refl _ _⟩
    · obtain ⟨N, rfl, hN⟩ := nat_of hi
      rw [cntI_t ho hi]
      exact scount_yes N hN a cap ss w h ho

end Go.Proofs.Ytdofeahbgodopaa
