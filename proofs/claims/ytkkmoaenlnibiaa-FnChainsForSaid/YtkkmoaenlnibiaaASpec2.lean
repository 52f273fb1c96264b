/-
  The model's AgainstOf and SameAt. No condition.
-/
import Derived.Test.YtkkmoaenlnibiaaASpec
import Derived.Test.YtkkmoaenlnibiaaAAlw
namespace Go.Proofs.Ytkkmoaenlnibiaa
open Go.RowKit

theorem least_neg (n : Int) (l : List UInt8) : (leastI n l < 0 ↔ (inB n 1 6 = false ∨ fOf l = none)) := by
  cases hi : inB n 1 6
  · rw [leastI_o hi]; simp
  · cases ho : fOf l with
    | none => rw [leastI_n ho]; simp
    | some t =>
      obtain ⟨N, rfl, hN⟩ := nat_of hi
      rw [leastI_t ho hi]
      have := vokB_of (lowU_ok hN t (cub N))
      simp
      omega

theorem all_step {p : Nat → Prop} {k : Nat} (h : ∀ j, j < k → p j) (e : p k) : ∀ j, j < k + 1 → p j := fun j hj => by
  by_cases h' : j < k
  · exact h j h'
  · have : j = k := by omega
    rw [this]; exact e

theorem sagof_no (n : Int) (s : ByteArray) (w : World) (h : inB n 1 6 = false ∨ fOf (bl s) = none) :
    Calls Try.prog 26 #[.int .i64 n, .string s] w fun e w' => e = .returned (.tuple #[.int .i64 (-1), .int .i64 (-1), .int .i64 (-1), .bool false]) ∧ w.grownBy w' none := by
  have cl := sleast_any n s w
  have hn := (least_neg n (bl s)).2 h
  clear h
  go_enter Try.func26, Try.ntmps26
  go_wp2_with fail
  refine cl.mono ?_
  rintro e w1 ⟨rfl, g1⟩
  clear cl
  go_wp2_with fail
  refine bodyPost_ret (results_tmp4 rfl _ _ _) rfl ?_
  exact ⟨rfl, g1⟩

set_option maxRecDepth 100000 in
set_option maxHeartbeats 4000000 in
theorem sagof_yes (N : Nat) (hN : 1 ≤ N ∧ N ≤ 6) (s : ByteArray) (w : World) {t : Tr} (ho : fOf (bl s) = some t) :
    Calls Try.prog 26 #[.int .i64 N, .string s] w fun e w' => e = .returned (agV N (bl s)) ∧ w.grownBy w' none := by
  have cl := sleast_any N s w
  have hi : inB (N : Int) 1 6 = true := inB_t (by omega)
  have hn : ¬ leastI N (bl s) < 0 := fun h => by
    have := (least_neg N (bl s)).1 h
    rw [hi, ho] at this
    simp at this
  obtain ⟨hs, hl⟩ := fOf_some ho
  have hsz : s.size ≤ 1048576 := by rw [bl_size, hs]; omega
  have cv : ∀ (k : Nat) (w : World), Calls Try.prog 51 #[.int .i64 N, .string s, .int .i64 (tA N k), .int .i64 (tB N k), .int .i64 (tC N k)] w fun e w' => e = .returned (.int .i64 (atK N t k)) ∧ w = w' := fun k w => sv_all (tri_ok hN k) t s w hs hsz
  have hag : agI N (bl s) = agN N t := agI_t ho hi
  have HA := Lib.hid hag
  clear ho hs hl hsz hi hag
  have hc := cub_le hN.2
  obtain ⟨M, m1, m2⟩ := cub_q hN
  have m0 : ¬ ((N : Int) + 1 = 0) := by omega
  go_enter Try.func26, Try.ntmps26
  go_wp2_with fail
  refine cl.mono ?_
  rintro e w1 ⟨rfl, g1⟩
  clear cl
  go_wp2_with fail
  go_loopw [9] (fun i wr => ∃ k : Nat, k ≤ cub N ∧ i = .int .i64 k ∧ (∀ j, j < k → atK N t j = N) ∧ w.grownBy wr none) (fun i _ => cub N - (intOf i).toNat)
  case atStart => exact ⟨0, by omega, rfl, fun j hj => absurd hj (by omega), g1⟩
  case round =>
    obtain ⟨k, hk, rfl, hall, hgr⟩ := hrel
    have HL := Lib.hid hall
    clear hall
    by_cases hlt : k < cub N
    · obtain ⟨D, d0, d1, p0, p1, p2, p3⟩ := place_q hlt
      have a0 := tA_le N k
      have b0 := tB_le N k
      have c0 := tC_le N k
      have z1 : IntKind.i64.wrap D = D := IntWalk.i64_in _ (by omega)
      have z2 : IntKind.i64.wrap (tA N k : Int) = tA N k := IntWalk.i64_in _ (by omega)
      have z3 : IntKind.i64.wrap (tB N k : Int) = tB N k := IntWalk.i64_in _ (by omega)
      have z4 : IntKind.i64.wrap (tC N k : Int) = tC N k := IntWalk.i64_in _ (by omega)
      have h0 := atK_le hN t k
      by_cases hv : atK N t k < N
      · have hd : decide (atK N t k < (N : Int)) = true := decide_eq_true hv
        have e := Lib.hid (agN_at hlt HL.out (by omega))
        clear h0 hv
        go_wp2
        go_region_held3 (fun w' => w.grownBy w' none) (first | exact grownBy_drew hgr | assumption) (first | (go_at_call 51; refine (cv k _).mono ?_; rintro e w2 ⟨rfl, rfl⟩))
        go_wp2
        go_quiet (fail)
        go_wp2
        refine bodyPost_ret (results_tmp4 rfl _ _ _) rfl ?_
        exact ⟨by rw [agV_s (HA.out.trans e.out)]; rfl, grownBy_drewN (grownBy_drew hgr) _⟩
      · have hd : decide (atK N t k < (N : Int)) = false := decide_eq_false hv
        have e : atK N t k = N := by omega
        have E := Lib.hid e
        clear h0 hv e
        go_wp2
        go_region_held3 (fun w' => w.grownBy w' none) (first | exact grownBy_drew hgr | assumption) (first | (go_at_call 51; refine (cv k _).mono ?_; rintro e w2 ⟨rfl, rfl⟩))
        go_wp2
        go_roundw
        case rel => exact ⟨k + 1, by omega, by go_num, all_step HL.out E.out, grownBy_drew hgr⟩
        case measure => simp [intOf]; omega
    · obtain rfl : k = cub N := by omega
      have e := Lib.hid (agN_no HL.out)
      go_wp2
      refine bodyPost_ret (results_tmp4 rfl _ _ _) rfl ?_
      exact ⟨by rw [agV_n (HA.out.trans e.out)]; rfl, hgr⟩

theorem sagof_any (n : Int) (s : ByteArray) (w : World) :
    Calls Try.prog 26 #[.int .i64 n, .string s] w fun e w' => e = .returned (agV n (bl s)) ∧ w.grownBy w' none := by
  cases hi : inB n 1 6
  · rw [agV_n (agI_o hi)]; exact sagof_no n s w (.inl hi)
  · cases ho : fOf (bl s) with
    | none => rw [agV_n (agI_n ho)]; exact sagof_no n s w (.inr ho)
    | some t =>
      obtain ⟨N, rfl, hN⟩ := nat_of hi
      exact sagof_yes N hN s w ho

theorem ssame_no1 (n : Int) (s s' : ByteArray) (w : World) (h : inB n 1 6 = false ∨ fOf (bl s) = none) :
    Calls Try.prog 29 #[.int .i64 n, .string s, .string s'] w fun e w' => e = .returned (.bool false) ∧ w.grownBy w' none := by
  have cl := sleast_any n s w
  have hn : decide (leastI n (bl s) < 0) = true := decide_eq_true ((least_neg n (bl s)).2 h)
  clear h
  go_enter Try.func29, Try.ntmps29
  go_wp2_with fail
  refine cl.mono ?_
  rintro e w1 ⟨rfl, g1⟩
  clear cl
  go_wp2_with fail
  go_ret
  exact ⟨rfl, g1⟩

theorem ssame_no2 (N : Nat) (hN : 1 ≤ N ∧ N ≤ 6) (s s' : ByteArray) (w : World) {t : Tr} (ho : fOf (bl s) = some t) (ho' : fOf (bl s') = none) :
    Calls Try.prog 29 #[.int .i64 N, .string s, .string s'] w fun e w' => e = .returned (.bool false) ∧ w.grownBy w' none := by
  have cl := sleast_any N s w
  have cf := fun w => sform_any s' w
  rw [isF_f ho'] at cf
  have hi : inB (N : Int) 1 6 = true := inB_t (by omega)
  have hn : decide (leastI N (bl s) < 0) = false := decide_eq_false fun h => by
    have := (least_neg N (bl s)).1 h
    rw [hi, ho] at this
    simp at this
  clear ho ho' hi
  go_enter Try.func29, Try.ntmps29
  go_wp2_with fail
  refine cl.mono ?_
  rintro e w1 ⟨rfl, g1⟩
  clear cl
  go_wp2_with (go_at_call 30; refine (cf _).mono ?_; clear cf; rintro e w2 ⟨rfl, rfl⟩)
  go_ret
  exact ⟨rfl, g1⟩

set_option maxRecDepth 100000 in
set_option maxHeartbeats 4000000 in
theorem ssame_yes (N : Nat) (hN : 1 ≤ N ∧ N ≤ 6) (s s' : ByteArray) (w : World) {t u : Tr} (ho : fOf (bl s) = some t) (ho' : fOf (bl s') = some u) :
    Calls Try.prog 29 #[.int .i64 N, .string s, .string s'] w fun e w' => e = .returned (.bool (sameT N t u)) ∧ w.grownBy w' none := by
  have cl := sleast_any N s w
  have cf := fun w => sform_any s' w
  rw [isF_t ho'] at cf
  have hi : inB (N : Int) 1 6 = true := inB_t (by omega)
  have hn : decide (leastI N (bl s) < 0) = false := decide_eq_false fun h => by
    have := (least_neg N (bl s)).1 h
    rw [hi, ho] at this
    simp at this
  obtain ⟨hs, hl⟩ := fOf_some ho
  obtain ⟨hs', hl'⟩ := fOf_some ho'
  have hsz : s.size ≤ 1048576 := by rw [bl_size, hs]; omega
  have hsz' : s'.size ≤ 1048576 := by rw [bl_size, hs']; omega
  have cv : ∀ (k : Nat) (w : World), Calls Try.prog 51 #[.int .i64 N, .string s, .int .i64 (tA N k), .int .i64 (tB N k), .int .i64 (tC N k)] w fun e w' => e = .returned (.int .i64 (atK N t k)) ∧ w = w' := fun k w => sv_all (tri_ok hN k) t s w hs hsz
  have cu : ∀ (k : Nat) (w : World), Calls Try.prog 51 #[.int .i64 N, .string s', .int .i64 (tA N k), .int .i64 (tB N k), .int .i64 (tC N k)] w fun e w' => e = .returned (.int .i64 (atK N u k)) ∧ w = w' := fun k w => sv_all (tri_ok hN k) u s' w hs' hsz'
  clear ho hs hl hsz hi ho' hs' hl' hsz'
  have hc := cub_le hN.2
  obtain ⟨M, m1, m2⟩ := cub_q hN
  have m0 : ¬ ((N : Int) + 1 = 0) := by omega
  go_enter Try.func29, Try.ntmps29
  go_wp2_with fail
  refine cl.mono ?_
  rintro e w1 ⟨rfl, g1⟩
  clear cl
  go_wp2_with (go_at_call 30; refine (cf _).mono ?_; clear cf; rintro e w2 ⟨rfl, rfl⟩)
  go_loopw [8] (fun i wr => ∃ k : Nat, k ≤ cub N ∧ i = .int .i64 k ∧ (∀ j, j < k → atK N t j = atK N u j) ∧ w.grownBy wr none) (fun i _ => cub N - (intOf i).toNat)
  case atStart => exact ⟨0, by omega, rfl, fun j hj => absurd hj (by omega), g1⟩
  case round =>
    obtain ⟨k, hk, rfl, hall, hgr⟩ := hrel
    have HL := Lib.hid hall
    clear hall
    by_cases hlt : k < cub N
    · obtain ⟨D, d0, d1, p0, p1, p2, p3⟩ := place_q hlt
      have a0 := tA_le N k
      have b0 := tB_le N k
      have c0 := tC_le N k
      have z1 : IntKind.i64.wrap D = D := IntWalk.i64_in _ (by omega)
      have z2 : IntKind.i64.wrap (tA N k : Int) = tA N k := IntWalk.i64_in _ (by omega)
      have z3 : IntKind.i64.wrap (tB N k : Int) = tB N k := IntWalk.i64_in _ (by omega)
      have z4 : IntKind.i64.wrap (tC N k : Int) = tC N k := IntWalk.i64_in _ (by omega)
      cases hv : (atK N t k != atK N u k)
      · have E := Lib.hid (show atK N t k = atK N u k from by simpa using hv)
        go_wp2
        go_region_held3 (fun w' => w.grownBy w' none) (first | exact grownBy_drew hgr | assumption) (first | (go_at_call 51; (with_reducible refine (cv k _).mono ?_); rintro e w2 ⟨rfl, rfl⟩) | (go_at_call 51; (with_reducible refine (cu k _).mono ?_); rintro e w2 ⟨rfl, rfl⟩))
        go_wp2
        go_roundw
        case rel => exact ⟨k + 1, by omega, by go_num, all_step HL.out E.out, grownBy_drew hgr⟩
        case measure => simp [intOf]; omega
      · have E := Lib.hid (sameT_no hlt (show atK N t k ≠ atK N u k from by simpa using hv))
        go_wp2
        go_region_held3 (fun w' => w.grownBy w' none) (first | exact grownBy_drew hgr | assumption) (first | (go_at_call 51; (with_reducible refine (cv k _).mono ?_); rintro e w2 ⟨rfl, rfl⟩) | (go_at_call 51; (with_reducible refine (cu k _).mono ?_); rintro e w2 ⟨rfl, rfl⟩))
        go_wp2
        go_ret
        exact ⟨by rw [E.out]; rfl, grownBy_drew hgr⟩
    · obtain rfl : k = cub N := by omega
      have E := Lib.hid (sameT_mk HL.out)
      go_wp2
      go_ret
      exact ⟨by rw [E.out]; rfl, hgr⟩

theorem ssamat_any (n : Int) (s s' : ByteArray) (w : World) :
    Calls Try.prog 29 #[.int .i64 n, .string s, .string s'] w fun e w' => e = .returned (.bool (sameI n (bl s) (bl s'))) ∧ w.grownBy w' none := by
  cases hi : inB n 1 6
  · rw [sameI_o hi]; exact ssame_no1 n s s' w (.inl hi)
  · cases ho : fOf (bl s) with
    | none => rw [sameI_n ho]; exact ssame_no1 n s s' w (.inr ho)
    | some t =>
      obtain ⟨N, rfl, hN⟩ := nat_of hi
      cases ho' : fOf (bl s') with
      | none => rw [sameI_m ho']; exact ssame_no2 N hN s s' w ho ho'
      | some u => rw [sameI_t ho ho' hi]; exact ssame_yes N hN s s' w ho ho'

end Go.Proofs.Ytkkmoaenlnibiaa
