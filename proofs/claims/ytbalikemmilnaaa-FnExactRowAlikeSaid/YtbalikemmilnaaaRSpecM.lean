/-
  The model's MovesOf. No condition.
-/
import Derived.Test.YtbalikemmilnaaaASpec
import Derived.Test.YtbalikemmilnaaaRSpec
namespace Go.Proofs.Ytbalikemmilnaaa
open Go.RowKit

def movI (n : Int) (l : List UInt8) : Int :=
  match fOf l with
  | some t => if inB n 1 6 = true then movU n.toNat t (cub n.toNat) else -1
  | none => -1
theorem movI_n {n : Int} {l : List UInt8} (h : fOf l = none) : movI n l = -1 := by unfold movI; rw [h]
theorem movI_o {n : Int} {l : List UInt8} (h : inB n 1 6 = false) : movI n l = -1 := by unfold movI; rw [h]; cases fOf l <;> rfl
theorem movI_t {N : Nat} {l : List UInt8} {t : Tr} (h : fOf l = some t) (hi : inB N 1 6 = true) : movI N l = movU N t (cub N) := by unfold movI; rw [h]; simp only [hi]; rfl
/-- One place more. -/
theorem movU_skip {N : Nat} (t : Tr) {k : Nat} (hk : k < cub N) (h : tA N k = 0) : movU N t (k + 1) = movU N t k := by
  show (if k / (N + 1) / (N + 1) = 0 then _ else _) = _
  rw [if_pos (by rw [← tA_eq hk]; exact h)]
theorem movU_go {N : Nat} (t : Tr) {k : Nat} (hk : k < cub N) (h : ¬ tA N k = 0) {p q : Int} (hp : atK N t k = p) (hq : t.val N ((tA N k : Int) - 1) (tB N k) (tC N k) = q) :
    movU N t (k + 1) = if gap p q ≤ movU N t k then movU N t k else gap p q := by
  show (if k / (N + 1) / (N + 1) = 0 then _ else _) = _
  rw [if_neg (by rw [← tA_eq hk]; exact h), ← hp, ← hq]
  rfl
def MvRel (N : Nat) (t : Tr) (w : World) (m i : Value) (wr : World) : Prop := ∃ k : Nat, k ≤ cub N ∧ i = .int .i64 k ∧ m = .int .i64 (movU N t k) ∧ w.grownBy wr none

theorem smov_no (n : Int) (s : ByteArray) (w : World) (h : leastI n (bl s) = -1) :
    Calls Try.prog 39 #[.int .i64 n, .string s] w fun e w' => e = .returned (.int .i64 (-1)) ∧ w.grownBy w' none := by
  have c1 := sleast_any n s w
  rw [h] at c1
  clear h
  go_enter Try.func39, Try.ntmps39
  go_wp2_with fail
  refine c1.mono ?_
  rintro e w1 ⟨rfl, g1⟩
  go_wp2_with fail
  go_ret
  exact ⟨rfl, g1⟩

set_option maxRecDepth 100000 in
set_option maxHeartbeats 8000000 in
theorem smov_yes (N : Nat) (hN : 1 ≤ N ∧ N ≤ 6) (s : ByteArray) (w : World) {t : Tr} (ho : fOf (bl s) = some t) :
    Calls Try.prog 39 #[.int .i64 N, .string s] w fun e w' => e = .returned (.int .i64 (movU N t (cub N))) ∧ w.grownBy w' none := by
  have c1 := sleast_any N s w
  rw [leastI_t ho (inB_nat hN)] at c1
  have l0 : 0 ≤ lowU N t (cub N) := by have := vokB_of (lowU_ok hN t (cub N)); omega
  obtain ⟨hs, hl⟩ := fOf_some ho
  have hsz : s.size ≤ 1048576 := by rw [bl_size, hs]; omega
  have cv : ∀ (k : Nat) (w : World), Calls Try.prog 68 #[.int .i64 N, .string s, .int .i64 (tA N k), .int .i64 (tB N k), .int .i64 (tC N k)] w fun e w' => e = .returned (.int .i64 (atK N t k)) ∧ w = w' := fun k w => sv_all (tri_ok hN k) t s w hs hsz
  have hlow : ∀ k : Nat, ¬ tA N k = 0 → thrB N ((tA N k : Int) - 1) (tB N k) (tC N k) = true := fun k hk => by
    obtain ⟨q1, q2, q3⟩ := thrB_of (tri_ok hN k)
    have := vokB_of q1
    exact thrB_mk (vokB_t (by omega)) q2 q3
  have cu : ∀ (k : Nat), ¬ tA N k = 0 → ∀ (w : World), Calls Try.prog 68 #[.int .i64 N, .string s, .int .i64 ((tA N k : Int) - 1), .int .i64 (tB N k), .int .i64 (tC N k)] w fun e w' => e = .returned (.int .i64 (t.val N ((tA N k : Int) - 1) (tB N k) (tC N k))) ∧ w = w' := fun k hk w => sv_all (hlow k hk) t s w hs hsz
  have hv1 : ∀ k, vokB N (atK N t k) = true := fun k => val_ok (tri_ok hN k) t
  have hv2 : ∀ k, ¬ tA N k = 0 → vokB N (t.val N ((tA N k : Int) - 1) (tB N k) (tC N k)) = true := fun k hk => val_ok (hlow k hk) t
  have HV := Lib.hid (And.intro hv1 hv2)
  have CU := Lib.hid cu
  clear ho hs hl hsz hlow hv1 hv2 cu
  have hc := cub_le hN.2
  obtain ⟨M, m1, m2⟩ := cub_q hN
  have m0 : ¬ ((N : Int) + 1 = 0) := by omega
  generalize lowU N t (cub N) = L at *
  go_enter Try.func39, Try.ntmps39
  go_wp2_with fail
  refine c1.mono ?_
  rintro e w1 ⟨rfl, g1⟩
  clear c1
  go_wp2_with fail
  go_loopw [6, 7] (fun m i wr => MvRel N t w m i wr) (fun _ i _ => cub N - (intOf i).toNat)
  case atStart => exact ⟨0, by omega, rfl, rfl, g1⟩
  case round =>
    obtain ⟨k, hk, rfl, rfl, hgr⟩ := hrel
    have hm0 := movU_pos N t k
    by_cases hlt : k < cub N
    · obtain ⟨D, d0, d1, p0, p1, p2, p3⟩ := place_q hlt
      have a0 := tA_le N k
      have b0 := tB_le N k
      have c0 := tC_le N k
      have z1 : IntKind.i64.wrap D = D := IntWalk.i64_in _ (by omega)
      have z2 : IntKind.i64.wrap (tA N k : Int) = tA N k := IntWalk.i64_in _ (by omega)
      have z3 : IntKind.i64.wrap (tB N k : Int) = tB N k := IntWalk.i64_in _ (by omega)
      have z4 : IntKind.i64.wrap (tC N k : Int) = tC N k := IntWalk.i64_in _ (by omega)
      by_cases hA : tA N k = 0
      · have hS := Lib.hid (movU_skip t hlt hA)
        have hA' : ((tA N k : Int) == 0) = true := by rw [hA]; rfl
        go_wp2
        go_roundw
        case rel => exact ⟨k + 1, by omega, by go_num, by rw [hS.out], hgr⟩
        case measure => simp [intOf]; omega
      · have cv' := cv k
        have cu' := CU.out k hA
        have v1 := vokB_of (HV.out.1 k)
        have v2 := vokB_of (HV.out.2 k hA)
        have hA' : ((tA N k : Int) == 0) = false := by simpa using hA
        have z5 : IntKind.i64.wrap ((tA N k : Int) - 1) = (tA N k : Int) - 1 := IntWalk.i64_in _ (by omega)
        have hS := Lib.hid (movU_go t hlt hA rfl rfl)
        generalize t.val N ((tA N k : Int) - 1) (tB N k) (tC N k) = q at *
        generalize atK N t k = p at *
        go_wp2
        go_region_held3 (fun w' => w.grownBy w' none) (first | exact grownBy_drew hgr | assumption) (first | (go_at_call 68; refine (cv' _).mono ?_; rintro e w2 ⟨rfl, rfl⟩))
        go_wp2
        go_region_held3 (fun w' => w.grownBy w' none) (first | exact grownBy_drew (grownBy_drew hgr) | assumption) (first | (go_at_call 68; refine (cu' _).mono ?_; rintro e w2 ⟨rfl, rfl⟩))
        have hSv : Hid (∀ S, S = movU N t k → movU N t (k + 1) = if gap p q ≤ S then S else gap p q) := fun S h => by rw [h]; exact hS.out
        clear hS
        generalize hU : movU N t k = U at *
        by_cases hpq : p ≤ q
        · by_cases hmx : q - p ≤ U
          all_goals
            go_wp2
          all_goals
            go_roundw
            case rel => exact ⟨k + 1, by omega, by go_num, by rw [hSv.out U rfl]; unfold gap; refine congrArg (Value.int .i64) ?_; (repeat' split) <;> omega, grownBy_drew (grownBy_drew hgr)⟩
            case measure => simp [intOf]; omega
        · by_cases hmx : p - q ≤ U
          all_goals
            go_wp2
          all_goals
            go_roundw
            case rel => exact ⟨k + 1, by omega, by go_num, by rw [hSv.out U rfl]; unfold gap; refine congrArg (Value.int .i64) ?_; (repeat' split) <;> omega, grownBy_drew (grownBy_drew hgr)⟩
            case measure => simp [intOf]; omega
    · obtain rfl : k = cub N := by omega
      go_wp2
      go_ret
      exact ⟨rfl, hgr⟩

theorem smov_any (n : Int) (s : ByteArray) (w : World) :
    Calls Try.prog 39 #[.int .i64 n, .string s] w fun e w' => e = .returned (.int .i64 (movI n (bl s))) ∧ w.grownBy w' none := by
  cases hi : inB n 1 6
  · rw [movI_o hi]; exact smov_no n s w (leastI_o hi)
  · cases ho : fOf (bl s) with
    | none => rw [movI_n ho]; exact smov_no n s w (leastI_n ho)
    | some t =>
      obtain ⟨N, rfl, hN⟩ := nat_of hi
      rw [movI_t ho hi]
      exact smov_yes N hN s w ho

end Go.Proofs.Ytbalikemmilnaaa
