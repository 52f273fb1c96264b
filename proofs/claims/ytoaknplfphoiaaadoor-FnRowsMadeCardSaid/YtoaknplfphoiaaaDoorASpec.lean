/-
  The model's LeastAt, AlwaysOk, AgainstOf, SameAt. No condition.
-/
import Derived.Test.YtoaknplfphoiaaaDoorFSpecV
import Derived.Test.YtoaknplfphoiaaaDoorAlwF
import Derived.BigQuiet
import Derived.Deep.QuietTactic
import Derived.Deep.RegionHeld3
import Derived.LoopTactic
import Derived.IntWalk
namespace Go.Proofs.YtoaknplfphoiaaaDoor
open Go.RowKit

theorem sleast_no (n : Int) (s : ByteArray) (w : World) (h : inB n 1 6 = false ∨ fOf (bl s) = none) :
    Calls Tryd.prog 32 #[.int .i64 n, .string s] w fun e w' => e = .returned (.int .i64 (-1)) ∧ w = w' := by
  have cf := sform_any s w
  have ci := in_any n 1 6 w
  cases ho : isF (bl s)
  · rw [ho] at cf
    clear h ho
    go_enter Tryd.func32, Tryd.ntmps32
    go_wp2_with fail
    refine cf.mono ?_
    rintro e w1 ⟨rfl, rfl⟩
    go_wp2_with fail
    go_ret
    exact ⟨rfl, rfl⟩
  · have hi : inB n 1 6 = false := h.resolve_right fun e => by rw [isF_f e] at ho; cases ho
    rw [ho] at cf
    rw [hi] at ci
    clear h ho hi
    go_enter Tryd.func32, Tryd.ntmps32
    go_wp2_with (first | (go_at_call 59; refine cf.mono ?_; clear cf; rintro e w1 ⟨rfl, rfl⟩) | (go_at_call 44; refine ci.mono ?_; clear ci; rintro e w1 ⟨rfl, rfl⟩))
    go_ret
    exact ⟨rfl, rfl⟩

/-- The values of the letters at a place, as the model reckons them. -/
theorem place_q {N k : Nat} (hk : k < cub N) : ∃ D : Int, 0 ≤ D ∧ D ≤ k ∧ (k : Int).tdiv ((N : Int) + 1) = D ∧ D.tdiv ((N : Int) + 1) = (tA N k : Int) ∧ D.tmod ((N : Int) + 1) = (tB N k : Int) ∧ (k : Int).tmod ((N : Int) + 1) = (tC N k : Int) := by
  refine ⟨((k / (N + 1) : Nat) : Int), Int.natCast_nonneg _, ?_, rfl, ?_, rfl, rfl⟩
  · exact Int.ofNat_le.2 (Nat.div_le_self k (N + 1))
  · rw [tA_eq hk]; rfl
/-- The number of places, as the model reckons it. -/
theorem cub_q {N : Nat} (hN : 1 ≤ N ∧ N ≤ 6) : ∃ M : Int, wrap64 (((N : Int) + 1) * ((N : Int) + 1)) = M ∧ wrap64 (M * ((N : Int) + 1)) = (cub N : Int) := by
  have h : N = 1 ∨ N = 2 ∨ N = 3 ∨ N = 4 ∨ N = 5 ∨ N = 6 := by omega
  rcases h with rfl | rfl | rfl | rfl | rfl | rfl <;> exact ⟨_, rfl, by decide +kernel⟩

theorem lowU_min (N : Nat) (t : Tr) (k : Nat) : (if atK N t k < lowU N t k then atK N t k else lowU N t k) = lowU N t (k + 1) := by
  by_cases h : lowU N t k ≤ atK N t k
  · rw [lowU_s1 h, if_neg (by omega)]
  · rw [lowU_s2 h, if_pos (by omega)]

set_option maxRecDepth 100000 in
set_option maxHeartbeats 4000000 in
theorem sleast_yes (N : Nat) (hN : 1 ≤ N ∧ N ≤ 6) (s : ByteArray) (w : World) {t : Tr} (ho : fOf (bl s) = some t) :
    Calls Tryd.prog 32 #[.int .i64 N, .string s] w fun e w' => e = .returned (.int .i64 (lowU N t (cub N))) ∧ w.grownBy w' none := by
  have cf := sform_any s w
  have ci := in_any N 1 6 w
  rw [inB_t (n := N) (by omega)] at ci
  rw [isF_t ho] at cf
  obtain ⟨hs, hl⟩ := fOf_some ho
  have hsz : s.size ≤ 1048576 := by rw [bl_size, hs]; omega
  have cv : ∀ (k : Nat) (w : World), Calls Tryd.prog 33 #[.int .i64 N, .string s, .int .i64 (tA N k), .int .i64 (tB N k), .int .i64 (tC N k)] w fun e w' => e = .returned (.int .i64 (atK N t k)) ∧ w = w' := fun k w => sv_all (tri_ok hN k) t s w hs hsz
  clear ho hs hl hsz
  have hc := cub_le hN.2
  obtain ⟨M, m1, m2⟩ := cub_q hN
  have m0 : ¬ ((N : Int) + 1 = 0) := by omega
  go_enter Tryd.func32, Tryd.ntmps32
  go_wp2_with (first | (go_at_call 59; refine cf.mono ?_; clear cf; rintro e w1 ⟨rfl, rfl⟩) | (go_at_call 44; refine ci.mono ?_; clear ci; rintro e w1 ⟨rfl, rfl⟩))
  go_loopw [6, 7] (fun v i wr => ∃ k : Nat, k ≤ cub N ∧ i = .int .i64 k ∧ v = .int .i64 (lowU N t k) ∧ w.grownBy wr none) (fun _ i _ => cub N - (intOf i).toNat)
  case atStart => exact ⟨0, by omega, rfl, rfl, grownBy_refl _ _⟩
  case round =>
    obtain ⟨k, hk, rfl, rfl, hgr⟩ := hrel
    by_cases hlt : k < cub N
    · obtain ⟨D, d0, d1, p0, p1, p2, p3⟩ := place_q hlt
      have a0 := tA_le N k
      have b0 := tB_le N k
      have c0 := tC_le N k
      have z1 : IntKind.i64.wrap D = D := IntWalk.i64_in _ (by omega)
      have z2 : IntKind.i64.wrap (tA N k : Int) = tA N k := IntWalk.i64_in _ (by omega)
      have z3 : IntKind.i64.wrap (tB N k : Int) = tB N k := IntWalk.i64_in _ (by omega)
      have z4 : IntKind.i64.wrap (tC N k : Int) = tC N k := IntWalk.i64_in _ (by omega)
      go_wp2
      go_region_held3 (fun w' => w.grownBy w' none) (first | exact grownBy_drew hgr | assumption) (first | (go_at_call 33; refine (cv k _).mono ?_; rintro e w2 ⟨rfl, rfl⟩))
      go_wp2
      go_roundw
      case rel => exact ⟨k + 1, by omega, by go_num, by rw [lowU_min], grownBy_drew hgr⟩
      case measure => simp [intOf]; omega
    · obtain rfl : k = cub N := by omega
      go_wp2
      go_ret
      exact ⟨rfl, hgr⟩

theorem sleast_any (n : Int) (s : ByteArray) (w : World) :
    Calls Tryd.prog 32 #[.int .i64 n, .string s] w fun e w' => e = .returned (.int .i64 (leastI n (bl s))) ∧ w.grownBy w' none := by
  cases hi : inB n 1 6
  · rw [leastI_o hi]; exact (sleast_no n s w (.inl hi)).mono fun e w' ⟨h1, h2⟩ => ⟨h1, by rw [h2]; exact grownBy_refl _ _⟩
  · cases ho : fOf (bl s) with
    | none => rw [leastI_n ho]; exact (sleast_no n s w (.inr ho)).mono fun e w' ⟨h1, h2⟩ => ⟨h1, by rw [h2]; exact grownBy_refl _ _⟩
    | some t =>
      obtain ⟨N, rfl, hN⟩ := nat_of hi
      rw [leastI_t ho hi]
      exact sleast_yes N hN s w ho

theorem least_alw (n : Int) (l : List UInt8) : ((leastI n l == n) = true ∧ 0 < n) ↔ alwB n l = true := by
  cases hi : inB n 1 6
  · have := inB_not hi
    rw [leastI_o hi, alwB_o hi]
    simp
    omega
  · cases ho : fOf l with
    | none => rw [leastI_n ho, alwB_n ho]; simp; omega
    | some t =>
      obtain ⟨N, rfl, hN⟩ := nat_of hi
      rw [leastI_t ho hi, alwB_t ho hi, low_alw hN]
      exact ⟨fun h => h.1, fun h => ⟨h, by omega⟩⟩

end Go.Proofs.YtoaknplfphoiaaaDoor
