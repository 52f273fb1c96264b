/-
  Joined out of the texts ASpec, FCell, RSpec, RSpecM, FSpecB, DSpec, DMade, FLet, RC, ADraw, RDraw, CpI, Pair, DMade2, DOp, DOp2: what each holds is told at its head.
-/
import Derived.Test.YtlnffpofbfigaaaGreatDoorM85c18669
import Derived.Test.YtlnffpofbfigaaaGreatDoorM2359aa93
import Derived.BigQuiet
import Derived.Deep.QuietTactic
import Derived.Deep.RegionHeld3
import Derived.LoopTactic
import Derived.IntWalk
import Derived.Test.YtlnffpofbfigaaaGreatDoorMdba168c0
import Derived.Test.YtlnffpofbfigaaaGreatDoorM377be3a7
import Derived.Test.YtlnffpofbfigaaaGreatDoorMcf9295ec
import Derived.SliceStrings
import Derived.Deep.Slices
import Derived.Deep.Fields
import Derived.Lib.SmallJoins

/-
  The model's LeastAt, AlwaysOk, AgainstOf, SameAt. No condition.
-/
namespace Go.Proofs.YtlnffpofbfigaaaGreatDoor
open Go.RowKit

theorem sleast_no (n : Int) (s : ByteArray) (w : World) (h : inB n 1 6 = false ∨ fOf (bl s) = none) :
    Calls Tryz.prog 66 #[.int .i64 n, .string s] w fun e w' => e = .returned (.int .i64 (-1)) ∧ w = w' := by
  have cf := sform_any s w
  have ci := in_any n 1 6 w
  cases ho : isF (bl s)
  · rw [ho] at cf
    clear h ho
    go_enter Tryz.func66, Tryz.ntmps66
    go_wp2_with fail
    refine cf.mono ?_
    rintro e w1 ⟨rfl, rfl⟩
    go_wp2_with fail
    go_ret
    exact ⟨rfl, rfl⟩
  · have hi : inB n 1 6 = false := h.resolve_right fun e => by rw [isF_f e] at ho; cases ho
    rw [ho] at cf
    rw [hi] at ci
    clear h ho hi
    go_enter Tryz.func66, Tryz.ntmps66
    go_wp2_with (first | (go_at_call 74; refine cf.mono ?_; clear cf; rintro e w1 ⟨rfl, rfl⟩) | (go_at_call 96; refine ci.mono ?_; clear ci; rintro e w1 ⟨rfl, rfl⟩))
    go_ret
    exact ⟨rfl, rfl⟩

/-- The values of the letters at a place, as the model reckons them. -/
theorem place_q {N k : Nat} (hk : k < cub N) : ∃ D : Int, 0 ≤ D ∧ D ≤ k ∧ (k : Int).tdiv ((N : Int) + 1) = D ∧ D.tdiv ((N : Int) + 1) = (tA N k : Int) ∧ D.tmod ((N : Int) + 1) = (tB N k : Int) ∧ (k : Int).tmod ((N : Int) + 1) = (tC N k : Int) := by
  refine ⟨((k / (N + 1) : Nat) : Int), Int.natCast_nonneg _, ?_, rfl, ?_, rfl, rfl⟩
  · exact Int.ofNat_le.2 (Nat.div_le_self k (N + 1))
  · rw [tA_eq hk]; rfl
/-- The number of places, as the model reckons it. -/
theorem cub_q {N : Nat} (hN : 1 ≤ N ∧ N ≤ 6) : ∃ M : Int, wrap64 (((N : Int) + 1) * ((N : Int) + 1)) = M ∧ wrap64 (M * ((N : Int) + 1)) = (cub N : Int) := by
  have h : N = 1 ∨ N = 2 ∨ N = 3 ∨ N = 4 ∨ N = 5 ∨ N = 6 := by omega
  rcases h with rfl | rfl | rfl | rfl | rfl | rfl <;> exact ⟨_, rfl, by decide +kernel⟩

theorem lowU_min (N : Nat) (t : Tr) (k : Nat) : (if atK N t k < lowU N t k then atK N t k else lowU N t k) = lowU N t (k + 1) := by
  by_cases h : lowU N t k ≤ atK N t k
  · rw [lowU_s1 h, if_neg (by omega)]
  · rw [lowU_s2 h, if_pos (by omega)]

set_option maxRecDepth 100000 in
set_option maxHeartbeats 4000000 in
theorem sleast_yes (N : Nat) (hN : 1 ≤ N ∧ N ≤ 6) (s : ByteArray) (w : World) {t : Tr} (ho : fOf (bl s) = some t) :
    Calls Tryz.prog 66 #[.int .i64 N, .string s] w fun e w' => e = .returned (.int .i64 (lowU N t (cub N))) ∧ w.grownBy w' none := by
  have cf := sform_any s w
  have ci := in_any N 1 6 w
  rw [inB_t (n := N) (by omega)] at ci
  rw [isF_t ho] at cf
  obtain ⟨hs, hl⟩ := fOf_some ho
  have hsz : s.size ≤ 1048576 := by rw [bl_size, hs]; omega
  have cv : ∀ (k : Nat) (w : World), Calls Tryz.prog 111 #[.int .i64 N, .string s, .int .i64 (tA N k), .int .i64 (tB N k), .int .i64 (tC N k)] w fun e w' => e = .returned (.int .i64 (atK N t k)) ∧ w = w' := fun k w => sv_all (tri_ok hN k) t s w hs hsz
  clear ho hs hl hsz
  have hc := cub_le hN.2
  obtain ⟨M, m1, m2⟩ := cub_q hN
  have m0 : ¬ ((N : Int) + 1 = 0) := by omega
  go_enter Tryz.func66, Tryz.ntmps66
  go_wp2_with (first | (go_at_call 74; refine cf.mono ?_; clear cf; rintro e w1 ⟨rfl, rfl⟩) | (go_at_call 96; refine ci.mono ?_; clear ci; rintro e w1 ⟨rfl, rfl⟩))
  go_loopw [6, 7] (fun v i wr => ∃ k : Nat, k ≤ cub N ∧ i = .int .i64 k ∧ v = .int .i64 (lowU N t k) ∧ w.grownBy wr none) (fun _ i _ => cub N - (intOf i).toNat)
  case atStart => exact ⟨0, by omega, rfl, rfl, grownBy_refl _ _⟩
  case round =>
    obtain ⟨k, hk, rfl, rfl, hgr⟩ := hrel
    by_cases hlt : k < cub N
    · obtain ⟨D, d0, d1, p0, p1, p2, p3⟩ := place_q hlt
      have a0 := tA_le N k
      have b0 := tB_le N k
      have c0 := tC_le N k
      have z1 : IntKind.i64.wrap D = D := IntWalk.i64_in _ (by omega)
      have z2 : IntKind.i64.wrap (tA N k : Int) = tA N k := IntWalk.i64_in _ (by omega)
      have z3 : IntKind.i64.wrap (tB N k : Int) = tB N k := IntWalk.i64_in _ (by omega)
      have z4 : IntKind.i64.wrap (tC N k : Int) = tC N k := IntWalk.i64_in _ (by omega)
      go_wp2
      go_region_held3 (fun w' => w.grownBy w' none) (first | exact grownBy_drew hgr | assumption) (first | (go_at_call 111; refine (cv k _).mono ?_; rintro e w2 ⟨rfl, rfl⟩))
      go_wp2
      go_roundw
      case rel => exact ⟨k + 1, by omega, by go_num, by rw [lowU_min], grownBy_drew hgr⟩
      case measure => simp [intOf]; omega
    · obtain rfl : k = cub N := by omega
      go_wp2
      go_ret
      exact ⟨rfl, hgr⟩

theorem sleast_any (n : Int) (s : ByteArray) (w : World) :
    Calls Tryz.prog 66 #[.int .i64 n, .string s] w fun e w' => e = .returned (.int .i64 (leastI n (bl s))) ∧ w.grownBy w' none := by
  cases hi : inB n 1 6
  · rw [leastI_o hi]; exact (sleast_no n s w (.inl hi)).mono fun e w' ⟨h1, h2⟩ => ⟨h1, by rw [h2]; exact grownBy_refl _ _⟩
  · cases ho : fOf (bl s) with
    | none => rw [leastI_n ho]; exact (sleast_no n s w (.inr ho)).mono fun e w' ⟨h1, h2⟩ => ⟨h1, by rw [h2]; exact grownBy_refl _ _⟩
    | some t =>
      obtain ⟨N, rfl, hN⟩ := nat_of hi
      rw [leastI_t ho hi]
      exact sleast_yes N hN s w ho

theorem least_alw (n : Int) (l : List UInt8) : ((leastI n l == n) = true ∧ 0 < n) ↔ alwB n l = true := by
  cases hi : inB n 1 6
  · have := inB_not hi
    rw [leastI_o hi, alwB_o hi]
    simp
    omega
  · cases ho : fOf l with
    | none => rw [leastI_n ho, alwB_n ho]; simp; omega
    | some t =>
      obtain ⟨N, rfl, hN⟩ := nat_of hi
      rw [leastI_t ho hi, alwB_t ho hi, low_alw hN]
      exact ⟨fun h => h.1, fun h => ⟨h, by omega⟩⟩

theorem salways_any (n : Int) (s : ByteArray) (w : World) :
    Calls Tryz.prog 64 #[.int .i64 n, .string s] w fun e w' => e = .returned (.bool (alwB n (bl s))) ∧ w.grownBy w' none := by
  have cl := sleast_any n s w
  have hb := least_alw n (bl s)
  cases ha : alwB n (bl s)
  · by_cases he : (leastI n (bl s) == n) = true
    · have hn : decide (0 < n) = false := decide_eq_false fun h => by have := hb.1 ⟨he, h⟩; rw [ha] at this; cases this
      clear hb ha
      go_enter Tryz.func64, Tryz.ntmps64
      go_wp2_with fail
      refine cl.mono ?_
      rintro e w1 ⟨rfl, g1⟩
      clear cl
      go_wp2_with fail
      go_ret
      exact ⟨rfl, g1⟩
    · have he' : (leastI n (bl s) == n) = false := by simpa using he
      clear hb ha he
      go_enter Tryz.func64, Tryz.ntmps64
      go_wp2_with fail
      refine cl.mono ?_
      rintro e w1 ⟨rfl, g1⟩
      clear cl
      go_wp2_with fail
      go_ret
      exact ⟨rfl, g1⟩
  · obtain ⟨he, h0⟩ := hb.2 ha
    have hn : decide (0 < n) = true := decide_eq_true h0
    clear hb ha h0
    go_enter Tryz.func64, Tryz.ntmps64
    go_wp2_with fail
    refine cl.mono ?_
    rintro e w1 ⟨rfl, g1⟩
    clear cl
    go_wp2_with fail
    go_ret
    exact ⟨rfl, g1⟩

end Go.Proofs.YtlnffpofbfigaaaGreatDoor

/-
  What lay lies on along a growth of the world: cells. Bytes of two strings put together; the text that BasicOf tells.
-/
namespace Go.Proofs.YtlnffpofbfigaaaGreatDoor
open Go.RowKit Go.Maps Go.Joins

theorem cell_grown {w1 w2 : World} {a : Addr} {x : Value} (h : w1.cell? a = some x) (hg : w1.grownBy w2 none) : w2.cell? a = some x :=
  (World.cell?_of_block (hg.block a.block (World.block_lt_of_cell? w1 _ h) (by simp))).trans h

theorem held2 {w0 w1 w2 : World} {a b : Addr} {x y : Value} (h : w1.cell? a = some x ∧ w1.cell? b = some y ∧ w0.grownBy w1 none) (hg : w1.grownBy w2 none) :
    w2.cell? a = some x ∧ w2.cell? b = some y ∧ w0.grownBy w2 none := ⟨cell_grown h.1 hg, cell_grown h.2.1 hg, grownBy_trans h.2.2 hg⟩

theorem bl_app (a b : ByteArray) : bl (a ++ b) = bl a ++ bl b := by unfold bl; simp
def lb (t : Tr) : ByteArray := ⟨t.lim.toArray⟩
theorem bl_lb (t : Tr) : bl (lb t) = t.lim := rfl
theorem lb_size (t : Tr) : (lb t).size ≤ 60 := by rw [bl_size, bl_lb]; exact lim_len t

theorem lb_long {t : Tr} (h : ¬ t.txt.length ≤ 60) : (⟨#[]⟩ : ByteArray) = lb t := by unfold lb; rw [lim_f h]
theorem lb_none {t : Tr} (h : ¬ t.txt.length ≤ 60) : (lb t).toList.isEmpty = true := bl_empty (lim_f h)
theorem lb_some {t : Tr} (h : t.txt.length ≤ 60) : (lb t).toList.isEmpty = false := by
  have p := txt_pos t
  rw [ByteArray.toList_eq]
  show t.lim.isEmpty = false
  rw [lim_t h]
  cases e : t.txt with
  | nil => rw [e] at p; simp at p
  | cons c l => rfl
theorem lb_len {t : Tr} (h : t.txt.length ≤ 60) : (lb t).size = t.txt.length := by rw [bl_size, bl_lb, lim_t h]

theorem lb_fol {t u : Tr} (ht : t.txt.length ≤ 60) (hu : u.txt.length ≤ 60) (h : t.txt.length + u.txt.length + 3 ≤ 60) :
    (⟨#[40]⟩ : ByteArray) ++ lb t ++ ⟨#[62]⟩ ++ lb u ++ ⟨#[41]⟩ = lb (.bin .fol t u) := by
  apply bl_inj
  rw [bl_app, bl_app, bl_app, bl_app, bl_lb, bl_lb, bl_lb, lim_t ht, lim_t hu, lim_t (by rw [fol_len]; exact h)]
  show [40] ++ t.txt ++ [62] ++ u.txt ++ [41] = 40 :: (t.txt ++ 62 :: (u.txt ++ [41]))
  simp
def bbT (l : List UInt8) : ByteArray := ⟨(basT l).toArray⟩

end Go.Proofs.YtlnffpofbfigaaaGreatDoor

/-
  The model's FarOf, AlikeOf, RowOk, RowFar, RowAlike. No condition.
-/
namespace Go.Proofs.YtlnffpofbfigaaaGreatDoor
open Go.RowKit

/-! Rows. -/
end Go.Proofs.YtlnffpofbfigaaaGreatDoor

/-
  The model's MovesOf. No condition.
-/
namespace Go.Proofs.YtlnffpofbfigaaaGreatDoor
open Go.RowKit

def movI (n : Int) (l : List UInt8) : Int :=
  match fOf l with
  | some t => if inB n 1 6 = true then movU n.toNat t (cub n.toNat) else -1
  | none => -1
theorem movI_n {n : Int} {l : List UInt8} (h : fOf l = none) : movI n l = -1 := by unfold movI; rw [h]
theorem movI_o {n : Int} {l : List UInt8} (h : inB n 1 6 = false) : movI n l = -1 := by unfold movI; rw [h]; cases fOf l <;> rfl
theorem movI_t {N : Nat} {l : List UInt8} {t : Tr} (h : fOf l = some t) (hi : inB N 1 6 = true) : movI N l = movU N t (cub N) := by unfold movI; rw [h]; simp only [hi]; rfl
/-- One place more. -/
theorem movU_skip {N : Nat} (t : Tr) {k : Nat} (hk : k < cub N) (h : tA N k = 0) : movU N t (k + 1) = movU N t k := by
  show (if k / (N + 1) / (N + 1) = 0 then _ else _) = _
  rw [if_pos (by rw [← tA_eq hk]; exact h)]
theorem movU_go {N : Nat} (t : Tr) {k : Nat} (hk : k < cub N) (h : ¬ tA N k = 0) {p q : Int} (hp : atK N t k = p) (hq : t.val N ((tA N k : Int) - 1) (tB N k) (tC N k) = q) :
    movU N t (k + 1) = if gap p q ≤ movU N t k then movU N t k else gap p q := by
  show (if k / (N + 1) / (N + 1) = 0 then _ else _) = _
  rw [if_neg (by rw [← tA_eq hk]; exact h), ← hp, ← hq]
  rfl
def MvRel (N : Nat) (t : Tr) (w : World) (m i : Value) (wr : World) : Prop := ∃ k : Nat, k ≤ cub N ∧ i = .int .i64 k ∧ m = .int .i64 (movU N t k) ∧ w.grownBy wr none

theorem smov_no (n : Int) (s : ByteArray) (w : World) (h : leastI n (bl s) = -1) :
    Calls Tryz.prog 71 #[.int .i64 n, .string s] w fun e w' => e = .returned (.int .i64 (-1)) ∧ w.grownBy w' none := by
  have c1 := sleast_any n s w
  rw [h] at c1
  clear h
  go_enter Tryz.func71, Tryz.ntmps71
  go_wp2_with fail
  refine c1.mono ?_
  rintro e w1 ⟨rfl, g1⟩
  go_wp2_with fail
  go_ret
  exact ⟨rfl, g1⟩

set_option maxRecDepth 100000 in
set_option maxHeartbeats 8000000 in
theorem smov_yes (N : Nat) (hN : 1 ≤ N ∧ N ≤ 6) (s : ByteArray) (w : World) {t : Tr} (ho : fOf (bl s) = some t) :
    Calls Tryz.prog 71 #[.int .i64 N, .string s] w fun e w' => e = .returned (.int .i64 (movU N t (cub N))) ∧ w.grownBy w' none := by
  have c1 := sleast_any N s w
  rw [leastI_t ho (inB_nat hN)] at c1
  have l0 : 0 ≤ lowU N t (cub N) := by have := vokB_of (lowU_ok hN t (cub N)); omega
  obtain ⟨hs, hl⟩ := fOf_some ho
  have hsz : s.size ≤ 1048576 := by rw [bl_size, hs]; omega
  have cv : ∀ (k : Nat) (w : World), Calls Tryz.prog 111 #[.int .i64 N, .string s, .int .i64 (tA N k), .int .i64 (tB N k), .int .i64 (tC N k)] w fun e w' => e = .returned (.int .i64 (atK N t k)) ∧ w = w' := fun k w => sv_all (tri_ok hN k) t s w hs hsz
  have hlow : ∀ k : Nat, ¬ tA N k = 0 → thrB N ((tA N k : Int) - 1) (tB N k) (tC N k) = true := fun k hk => by
    obtain ⟨q1, q2, q3⟩ := thrB_of (tri_ok hN k)
    have := vokB_of q1
    exact thrB_mk (vokB_t (by omega)) q2 q3
  have cu : ∀ (k : Nat), ¬ tA N k = 0 → ∀ (w : World), Calls Tryz.prog 111 #[.int .i64 N, .string s, .int .i64 ((tA N k : Int) - 1), .int .i64 (tB N k), .int .i64 (tC N k)] w fun e w' => e = .returned (.int .i64 (t.val N ((tA N k : Int) - 1) (tB N k) (tC N k))) ∧ w = w' := fun k hk w => sv_all (hlow k hk) t s w hs hsz
  have hv1 : ∀ k, vokB N (atK N t k) = true := fun k => val_ok (tri_ok hN k) t
  have hv2 : ∀ k, ¬ tA N k = 0 → vokB N (t.val N ((tA N k : Int) - 1) (tB N k) (tC N k)) = true := fun k hk => val_ok (hlow k hk) t
  have HV := Lib.hid (And.intro hv1 hv2)
  have CU := Lib.hid cu
  clear ho hs hl hsz hlow hv1 hv2 cu
  have hc := cub_le hN.2
  obtain ⟨M, m1, m2⟩ := cub_q hN
  have m0 : ¬ ((N : Int) + 1 = 0) := by omega
  generalize lowU N t (cub N) = L at *
  go_enter Tryz.func71, Tryz.ntmps71
  go_wp2_with fail
  refine c1.mono ?_
  rintro e w1 ⟨rfl, g1⟩
  clear c1
  go_wp2_with fail
  go_loopw [6, 7] (fun m i wr => MvRel N t w m i wr) (fun _ i _ => cub N - (intOf i).toNat)
  case atStart => exact ⟨0, by omega, rfl, rfl, g1⟩
  case round =>
    obtain ⟨k, hk, rfl, rfl, hgr⟩ := hrel
    have hm0 := movU_pos N t k
    by_cases hlt : k < cub N
    · obtain ⟨D, d0, d1, p0, p1, p2, p3⟩ := place_q hlt
      have a0 := tA_le N k
      have b0 := tB_le N k
      have c0 := tC_le N k
      have z1 : IntKind.i64.wrap D = D := IntWalk.i64_in _ (by omega)
      have z2 : IntKind.i64.wrap (tA N k : Int) = tA N k := IntWalk.i64_in _ (by omega)
      have z3 : IntKind.i64.wrap (tB N k : Int) = tB N k := IntWalk.i64_in _ (by omega)
      have z4 : IntKind.i64.wrap (tC N k : Int) = tC N k := IntWalk.i64_in _ (by omega)
      by_cases hA : tA N k = 0
      · have hS := Lib.hid (movU_skip t hlt hA)
        have hA' : ((tA N k : Int) == 0) = true := by rw [hA]; rfl
        go_wp2
        go_roundw
        case rel => exact ⟨k + 1, by omega, by go_num, by rw [hS.out], hgr⟩
        case measure => simp [intOf]; omega
      · have cv' := cv k
        have cu' := CU.out k hA
        have v1 := vokB_of (HV.out.1 k)
        have v2 := vokB_of (HV.out.2 k hA)
        have hA' : ((tA N k : Int) == 0) = false := by simpa using hA
        have z5 : IntKind.i64.wrap ((tA N k : Int) - 1) = (tA N k : Int) - 1 := IntWalk.i64_in _ (by omega)
        have hS := Lib.hid (movU_go t hlt hA rfl rfl)
        generalize t.val N ((tA N k : Int) - 1) (tB N k) (tC N k) = q at *
        generalize atK N t k = p at *
        go_wp2
        go_region_held3 (fun w' => w.grownBy w' none) (first | exact grownBy_drew hgr | assumption) (first | (go_at_call 111; refine (cv' _).mono ?_; rintro e w2 ⟨rfl, rfl⟩))
        go_wp2
        go_region_held3 (fun w' => w.grownBy w' none) (first | exact grownBy_drew (grownBy_drew hgr) | assumption) (first | (go_at_call 111; refine (cu' _).mono ?_; rintro e w2 ⟨rfl, rfl⟩))
        have hSv : Hid (∀ S, S = movU N t k → movU N t (k + 1) = if gap p q ≤ S then S else gap p q) := fun S h => by rw [h]; exact hS.out
        clear hS
        generalize hU : movU N t k = U at *
        by_cases hpq : p ≤ q
        · by_cases hmx : q - p ≤ U
          all_goals
            go_wp2
          all_goals
            go_roundw
            case rel => exact ⟨k + 1, by omega, by go_num, by rw [hSv.out U rfl]; unfold gap; refine congrArg (Value.int .i64) ?_; (repeat' split) <;> omega, grownBy_drew (grownBy_drew hgr)⟩
            case measure => simp [intOf]; omega
        · by_cases hmx : p - q ≤ U
          all_goals
            go_wp2
          all_goals
            go_roundw
            case rel => exact ⟨k + 1, by omega, by go_num, by rw [hSv.out U rfl]; unfold gap; refine congrArg (Value.int .i64) ?_; (repeat' split) <;> omega, grownBy_drew (grownBy_drew hgr)⟩
            case measure => simp [intOf]; omega
    · obtain rfl : k = cub N := by omega
      go_wp2
      go_ret
      exact ⟨rfl, hgr⟩

theorem smov_any (n : Int) (s : ByteArray) (w : World) :
    Calls Tryz.prog 71 #[.int .i64 n, .string s] w fun e w' => e = .returned (.int .i64 (movI n (bl s))) ∧ w.grownBy w' none := by
  cases hi : inB n 1 6
  · rw [movI_o hi]; exact smov_no n s w (leastI_o hi)
  · cases ho : fOf (bl s) with
    | none => rw [movI_n ho]; exact smov_no n s w (leastI_n ho)
    | some t =>
      obtain ⟨N, rfl, hN⟩ := nat_of hi
      rw [movI_t ho hi]
      exact smov_yes N hN s w ho

end Go.Proofs.YtlnffpofbfigaaaGreatDoor

/-
  The model's BasicOf and LettersIn: l4Basic by induction on the tree whose text it is given; letters counted byte by byte. No condition.
-/
namespace Go.Proofs.YtlnffpofbfigaaaGreatDoor
open Go.RowKit

def fb (t : Tr) : ByteArray := ⟨t.bas.txt.toArray⟩
theorem bl_fb (t : Tr) : bl (fb t) = t.bas.txt := rfl
theorem fb_size {t : Tr} (h : t.txt.length ≤ 60) : (fb t).size ≤ 32212255320 := by rw [bl_size, bl_fb]; exact bas_small h
theorem fb_mk {s : ByteArray} {t : Tr} (h : bl s = t.txt) (hb : t.bas = t) : s = fb t := bl_inj (by rw [bl_fb, hb, h])

theorem fb_neg (x : Tr) : (⟨#[40]⟩ : ByteArray) ++ fb x ++ ⟨#[62, 48, 41]⟩ = fb (.neg x) := by
  apply bl_inj
  rw [bl_app, bl_app, bl_fb, bl_fb]
  show [40] ++ x.bas.txt ++ [62, 48, 41] = 40 :: (x.bas.txt ++ 62 :: ([48] ++ [41]))
  simp

theorem fb_fol (x y : Tr) : (⟨#[40]⟩ : ByteArray) ++ fb x ++ (⟨#[62]⟩ : ByteArray) ++ fb y ++ (⟨#[41]⟩ : ByteArray) = fb (.bin .fol x y) := by
  apply bl_inj
  rw [bl_app, bl_app, bl_app, bl_app]
  show [40] ++ x.bas.txt ++ [62] ++ y.bas.txt ++ [41] = (Tr.bin .fol x y).bas.txt
  simp [Tr.bas, Tr.txt, Sg.byte]

theorem fb_plus (x y : Tr) : (⟨#[40, 40]⟩ : ByteArray) ++ fb x ++ (⟨#[62, 48, 41, 62]⟩ : ByteArray) ++ fb y ++ (⟨#[41]⟩ : ByteArray) = fb (.bin .plus x y) := by
  apply bl_inj
  rw [bl_app, bl_app, bl_app, bl_app]
  show [40, 40] ++ x.bas.txt ++ [62, 48, 41, 62] ++ y.bas.txt ++ [41] = (Tr.bin .plus x y).bas.txt
  simp [Tr.bas, Tr.no, Tr.F, Tr.txt, Sg.byte]

theorem fb_times (x y : Tr) : (⟨#[40, 40]⟩ : ByteArray) ++ fb x ++ (⟨#[62, 40]⟩ : ByteArray) ++ fb y ++ (⟨#[62, 48, 41, 41, 62, 48, 41]⟩ : ByteArray) = fb (.bin .times x y) := by
  apply bl_inj
  rw [bl_app, bl_app, bl_app, bl_app]
  show [40, 40] ++ x.bas.txt ++ [62, 40] ++ y.bas.txt ++ [62, 48, 41, 41, 62, 48, 41] = (Tr.bin .times x y).bas.txt
  simp [Tr.bas, Tr.no, Tr.F, Tr.txt, Sg.byte]

theorem fb_less (x y : Tr) : (⟨#[40, 40]⟩ : ByteArray) ++ fb x ++ (⟨#[62, 40, 40]⟩ : ByteArray) ++ fb x ++ (⟨#[62]⟩ : ByteArray) ++ fb y ++ (⟨#[41, 62, 48, 41, 41, 62, 48, 41]⟩ : ByteArray) = fb (.bin .less x y) := by
  apply bl_inj
  rw [bl_app, bl_app, bl_app, bl_app, bl_app, bl_app]
  show [40, 40] ++ x.bas.txt ++ [62, 40, 40] ++ x.bas.txt ++ [62] ++ y.bas.txt ++ [41, 62, 48, 41, 41, 62, 48, 41] = (Tr.bin .less x y).bas.txt
  simp [Tr.bas, Tr.no, Tr.F, Tr.txt, Sg.byte]

theorem fb_great (x y : Tr) : (⟨#[40, 40]⟩ : ByteArray) ++ fb x ++ (⟨#[62]⟩ : ByteArray) ++ fb y ++ (⟨#[41, 62]⟩ : ByteArray) ++ fb y ++ (⟨#[41]⟩ : ByteArray) = fb (.bin .great x y) := by
  apply bl_inj
  rw [bl_app, bl_app, bl_app, bl_app, bl_app, bl_app]
  show [40, 40] ++ x.bas.txt ++ [62] ++ y.bas.txt ++ [41, 62] ++ y.bas.txt ++ [41] = (Tr.bin .great x y).bas.txt
  simp [Tr.bas, Tr.txt, Sg.byte]

def SbOk (t : Tr) : Prop := ∀ (s : ByteArray) (w : World), bl s = t.txt → t.txt.length ≤ 60 →
  Calls Tryz.prog 177 #[.string s] w fun e w' => e = .returned (.string (fb t)) ∧ w = w'

theorem sb_lt (k : Lr) : SbOk (.lt k) := by
  intro s w h _
  have hi := fun w => idx0_run (c := k.byte) (r := []) h w
  have hz : 1 ≤ s.size := by rw [bl_size, h]; exact txt_pos _
  have e := Lib.hid (fb_mk h rfl)
  clear h
  cases k
  all_goals
    unfold Lr.byte at hi
    go_enter Tryz.func177, Tryz.ntmps177
    go_wp2_with fail
    go_ret
    exact ⟨by rw [← e.out]; rfl, rfl⟩

theorem sb_tru (k : Bool) : SbOk (.tru k) := by
  intro s w h _
  have hi := fun w => idx0_run (c := if k then 49 else 48) (r := []) h w
  have hz : 1 ≤ s.size := by rw [bl_size, h]; exact txt_pos _
  cases k
  · have e := Lib.hid (fb_mk h rfl)
    clear h
    simp only [Bool.false_eq_true, if_false] at hi
    go_enter Tryz.func177, Tryz.ntmps177
    go_wp2_with fail
    go_ret
    exact ⟨by rw [← e.out]; rfl, rfl⟩
  · clear h
    simp only [if_true] at hi
    go_enter Tryz.func177, Tryz.ntmps177
    go_wp2_with fail
    go_ret
    exact ⟨rfl, rfl⟩

theorem sb_neg {x : Tr} (ih : SbOk x) : SbOk (.neg x) := by
  intro s w h hs
  have hi := fun w => idx0_run (c := 33) (r := x.txt) h w
  have hz : 1 ≤ s.size := by rw [bl_size, h]; exact txt_pos _
  have ht := bl_tail (c := 33) (l := x.txt) h
  have hx : x.txt.length ≤ 60 := by simp [Tr.txt] at hs; omega
  have hf := fb_size hx
  have m : maxLen = 9223372036854775807 := rfl
  have c1 := ih (s.extract 1 s.size) w ht hx
  have e := Lib.hid (fb_neg x)
  generalize fb (.neg x) = z at *
  generalize fb x = u at *
  clear h ht ih hx hs
  go_enter Tryz.func177, Tryz.ntmps177
  go_wp2_with fail
  refine c1.mono ?_
  rintro e w1 ⟨rfl, rfl⟩
  clear c1
  go_wp2_with fail
  go_ret
  exact ⟨by rw [← e.out]; rfl, rfl⟩

theorem sb_fol {x y : Tr} (ihx : SbOk x) (ihy : SbOk y) : SbOk (.bin .fol x y) := by
  intro s w h hs
  obtain ⟨m, hm, hz, _, hd, ex, ey, _, px, py⟩ := bin_parts h
  have hs1 : s.size ≤ 1048576 := by rw [bl_size, h]; omega
  have hb := bin_len .fol x y
  have hx : x.txt.length ≤ 60 := by omega
  have hy : y.txt.length ≤ 60 := by omega
  have fx := fb_size hx
  have fy := fb_size hy
  have ml : maxLen = 9223372036854775807 := rfl
  have hi := fun w => idx0_run (c := 40) h w
  have hj := fun w => idx_run hd w
  have c0 := bin_end h hs1 hm w
  have c1 := ihx (s.extract 1 m) w ex hx
  have c2 := ihy (s.extract (m + 1) (s.size - 1)) w ey hy
  have e := Lib.hid (fb_fol x y)
  have q1 : 1 ≤ m := by omega
  have q2 : m + 1 ≤ s.size - 1 := by omega
  have q3 : m < s.size := by omega
  unfold Sg.byte at hj
  generalize fb (.bin .fol x y) = z at *
  generalize fb x = u at *
  generalize fb y = v at *
  clear h ex ey ihx ihy hx hy hd hm hz px py hs hb
  go_enter Tryz.func177, Tryz.ntmps177
  go_wp2_with fail
  refine c0.mono ?_
  rintro e w1 ⟨rfl, rfl⟩
  clear c0
  go_wp2_with fail
  refine c1.mono ?_
  rintro e w1 ⟨rfl, rfl⟩
  clear c1
  go_wp2_with fail
  refine c2.mono ?_
  rintro e w1 ⟨rfl, rfl⟩
  clear c2
  go_wp2_with fail
  go_ret
  exact ⟨by rw [← e.out]; rfl, rfl⟩

theorem sb_plus {x y : Tr} (ihx : SbOk x) (ihy : SbOk y) : SbOk (.bin .plus x y) := by
  intro s w h hs
  obtain ⟨m, hm, hz, _, hd, ex, ey, _, px, py⟩ := bin_parts h
  have hs1 : s.size ≤ 1048576 := by rw [bl_size, h]; omega
  have hb := bin_len .plus x y
  have hx : x.txt.length ≤ 60 := by omega
  have hy : y.txt.length ≤ 60 := by omega
  have fx := fb_size hx
  have fy := fb_size hy
  have ml : maxLen = 9223372036854775807 := rfl
  have hi := fun w => idx0_run (c := 40) h w
  have hj := fun w => idx_run hd w
  have c0 := bin_end h hs1 hm w
  have c1 := ihx (s.extract 1 m) w ex hx
  have c2 := ihy (s.extract (m + 1) (s.size - 1)) w ey hy
  have e := Lib.hid (fb_plus x y)
  have q1 : 1 ≤ m := by omega
  have q2 : m + 1 ≤ s.size - 1 := by omega
  have q3 : m < s.size := by omega
  unfold Sg.byte at hj
  generalize fb (.bin .plus x y) = z at *
  generalize fb x = u at *
  generalize fb y = v at *
  clear h ex ey ihx ihy hx hy hd hm hz px py hs hb
  go_enter Tryz.func177, Tryz.ntmps177
  go_wp2_with fail
  refine c0.mono ?_
  rintro e w1 ⟨rfl, rfl⟩
  clear c0
  go_wp2_with fail
  refine c1.mono ?_
  rintro e w1 ⟨rfl, rfl⟩
  clear c1
  go_wp2_with fail
  refine c2.mono ?_
  rintro e w1 ⟨rfl, rfl⟩
  clear c2
  go_wp2_with fail
  go_ret
  exact ⟨by rw [← e.out]; rfl, rfl⟩

theorem sb_times {x y : Tr} (ihx : SbOk x) (ihy : SbOk y) : SbOk (.bin .times x y) := by
  intro s w h hs
  obtain ⟨m, hm, hz, _, hd, ex, ey, _, px, py⟩ := bin_parts h
  have hs1 : s.size ≤ 1048576 := by rw [bl_size, h]; omega
  have hb := bin_len .times x y
  have hx : x.txt.length ≤ 60 := by omega
  have hy : y.txt.length ≤ 60 := by omega
  have fx := fb_size hx
  have fy := fb_size hy
  have ml : maxLen = 9223372036854775807 := rfl
  have hi := fun w => idx0_run (c := 40) h w
  have hj := fun w => idx_run hd w
  have c0 := bin_end h hs1 hm w
  have c1 := ihx (s.extract 1 m) w ex hx
  have c2 := ihy (s.extract (m + 1) (s.size - 1)) w ey hy
  have e := Lib.hid (fb_times x y)
  have q1 : 1 ≤ m := by omega
  have q2 : m + 1 ≤ s.size - 1 := by omega
  have q3 : m < s.size := by omega
  unfold Sg.byte at hj
  generalize fb (.bin .times x y) = z at *
  generalize fb x = u at *
  generalize fb y = v at *
  clear h ex ey ihx ihy hx hy hd hm hz px py hs hb
  go_enter Tryz.func177, Tryz.ntmps177
  go_wp2_with fail
  refine c0.mono ?_
  rintro e w1 ⟨rfl, rfl⟩
  clear c0
  go_wp2_with fail
  refine c1.mono ?_
  rintro e w1 ⟨rfl, rfl⟩
  clear c1
  go_wp2_with fail
  refine c2.mono ?_
  rintro e w1 ⟨rfl, rfl⟩
  clear c2
  go_wp2_with fail
  go_ret
  exact ⟨by rw [← e.out]; rfl, rfl⟩

theorem sb_less {x y : Tr} (ihx : SbOk x) (ihy : SbOk y) : SbOk (.bin .less x y) := by
  intro s w h hs
  obtain ⟨m, hm, hz, _, hd, ex, ey, _, px, py⟩ := bin_parts h
  have hs1 : s.size ≤ 1048576 := by rw [bl_size, h]; omega
  have hb := bin_len .less x y
  have hx : x.txt.length ≤ 60 := by omega
  have hy : y.txt.length ≤ 60 := by omega
  have fx := fb_size hx
  have fy := fb_size hy
  have ml : maxLen = 9223372036854775807 := rfl
  have hi := fun w => idx0_run (c := 40) h w
  have hj := fun w => idx_run hd w
  have c0 := bin_end h hs1 hm w
  have c1 := ihx (s.extract 1 m) w ex hx
  have c2 := ihy (s.extract (m + 1) (s.size - 1)) w ey hy
  have e := Lib.hid (fb_less x y)
  have q1 : 1 ≤ m := by omega
  have q2 : m + 1 ≤ s.size - 1 := by omega
  have q3 : m < s.size := by omega
  unfold Sg.byte at hj
  generalize fb (.bin .less x y) = z at *
  generalize fb x = u at *
  generalize fb y = v at *
  clear h ex ey ihx ihy hx hy hd hm hz px py hs hb
  go_enter Tryz.func177, Tryz.ntmps177
  go_wp2_with fail
  refine c0.mono ?_
  rintro e w1 ⟨rfl, rfl⟩
  clear c0
  go_wp2_with fail
  refine c1.mono ?_
  rintro e w1 ⟨rfl, rfl⟩
  clear c1
  go_wp2_with fail
  refine c2.mono ?_
  rintro e w1 ⟨rfl, rfl⟩
  clear c2
  go_wp2_with fail
  go_ret
  exact ⟨by rw [← e.out]; rfl, rfl⟩

theorem sb_great {x y : Tr} (ihx : SbOk x) (ihy : SbOk y) : SbOk (.bin .great x y) := by
  intro s w h hs
  obtain ⟨m, hm, hz, _, hd, ex, ey, _, px, py⟩ := bin_parts h
  have hs1 : s.size ≤ 1048576 := by rw [bl_size, h]; omega
  have hb := bin_len .great x y
  have hx : x.txt.length ≤ 60 := by omega
  have hy : y.txt.length ≤ 60 := by omega
  have fx := fb_size hx
  have fy := fb_size hy
  have ml : maxLen = 9223372036854775807 := rfl
  have hi := fun w => idx0_run (c := 40) h w
  have hj := fun w => idx_run hd w
  have c0 := bin_end h hs1 hm w
  have c1 := ihx (s.extract 1 m) w ex hx
  have c2 := ihy (s.extract (m + 1) (s.size - 1)) w ey hy
  have e := Lib.hid (fb_great x y)
  have q1 : 1 ≤ m := by omega
  have q2 : m + 1 ≤ s.size - 1 := by omega
  have q3 : m < s.size := by omega
  unfold Sg.byte at hj
  generalize fb (.bin .great x y) = z at *
  generalize fb x = u at *
  generalize fb y = v at *
  clear h ex ey ihx ihy hx hy hd hm hz px py hs hb
  go_enter Tryz.func177, Tryz.ntmps177
  go_wp2_with fail
  refine c0.mono ?_
  rintro e w1 ⟨rfl, rfl⟩
  clear c0
  go_wp2_with fail
  refine c1.mono ?_
  rintro e w1 ⟨rfl, rfl⟩
  clear c1
  go_wp2_with fail
  refine c2.mono ?_
  rintro e w1 ⟨rfl, rfl⟩
  clear c2
  go_wp2_with fail
  go_ret
  exact ⟨by rw [← e.out]; rfl, rfl⟩

theorem sb_all : ∀ t : Tr, SbOk t := by
  intro t
  induction t with
  | lt k => exact sb_lt k
  | tru k => exact sb_tru k
  | neg x ih => exact sb_neg ih
  | bin g x y ihx ihy =>
    cases g
    · exact sb_fol ihx ihy
    · exact sb_plus ihx ihy
    · exact sb_times ihx ihy
    · exact sb_less ihx ihy
    · exact sb_great ihx ihy

theorem sbasic_any (s : ByteArray) (w : World) :
    Calls Tryz.prog 142 #[.string s] w fun e w' => e = .returned (.tuple #[.string (bbT (bl s)), .bool (basB (bl s))]) ∧ w = w' := by
  have cf := sform_any s w
  cases h : fOf (bl s) with
  | none =>
    have e1 : bbT (bl s) = ⟨#[]⟩ := by unfold bbT; rw [basT_f h]
    rw [e1, basB_f h]
    rw [isF_f h] at cf
    clear h e1
    go_enter Tryz.func142, Tryz.ntmps142
    go_wp2_with fail
    refine cf.mono ?_
    rintro e w1 ⟨rfl, rfl⟩
    go_wp2_with fail
    go_ret2
    exact ⟨rfl, rfl⟩
  | some t =>
    obtain ⟨ht, hl⟩ := fOf_some h
    have c1 := sb_all t s w ht hl
    have c2 := sform_any (fb t) w
    rw [isF_t h] at cf
    have e1 : bbT (bl s) = lb t.bas := by unfold bbT; rw [basT_t h]; rfl
    rw [e1, basB_t h]
    by_cases hb : t.bas.txt.length ≤ 60
    · have e2 : isF (bl (fb t)) = true := isF_t (fOf_txt hb)
      have e3 : lb t.bas = fb t := by unfold lb fb; rw [lim_t hb]
      rw [e2] at c2
      rw [decide_eq_true hb, e3]
      clear h e1 e2 e3 hb ht hl
      go_enter Tryz.func142, Tryz.ntmps142
      go_wp2_with fail
      refine cf.mono ?_
      rintro e w1 ⟨rfl, rfl⟩
      go_wp2_with fail
      refine c1.mono ?_
      rintro e w1 ⟨rfl, rfl⟩
      go_wp2_with fail
      refine c2.mono ?_
      rintro e w1 ⟨rfl, rfl⟩
      go_wp2_with fail
      go_ret2
      exact ⟨rfl, rfl⟩
    · have e2 : isF (bl (fb t)) = false := isF_f (fOf_long (by rw [bl_fb]; omega))
      have e3 : lb t.bas = ⟨#[]⟩ := (lb_long hb).symm
      rw [e2] at c2
      rw [decide_eq_false hb, e3]
      clear h e1 e2 e3 hb ht hl
      go_enter Tryz.func142, Tryz.ntmps142
      go_wp2_with fail
      refine cf.mono ?_
      rintro e w1 ⟨rfl, rfl⟩
      go_wp2_with fail
      refine c1.mono ?_
      rintro e w1 ⟨rfl, rfl⟩
      go_wp2_with fail
      refine c2.mono ?_
      rintro e w1 ⟨rfl, rfl⟩
      go_wp2_with fail
      go_ret2
      exact ⟨rfl, rfl⟩

theorem take_snoc {s : ByteArray} {k : Nat} (h : k < s.size) : (bl s).take (k + 1) = (bl s).take k ++ [s[k]] := by
  unfold bl
  rw [List.take_succ_eq_append_getElem (by rw [← Lib.size_eq]; exact h)]; rfl

def LRel (s : ByteArray) (v i : Value) : Prop := ∃ k q : Nat, k ≤ s.size ∧ i = .int .i64 k ∧ v = .int .i64 q ∧ q ≤ k ∧ Hid (nL ((bl s).take k) = q)

theorem count_yes {s : ByteArray} {k q : Nat} (h : k < s.size) (hq : nL ((bl s).take k) = q) (hb : inB (s[k].toNat : Int) 97 99 = true) : nL ((bl s).take (k + 1)) = q + 1 := by
  have hc : isL s[k] = inB (s[k].toNat : Int) 97 99 := rfl
  rw [take_snoc h, nL_app, nL_cons, hc, hb, hq]; rfl
theorem count_no {s : ByteArray} {k q : Nat} (h : k < s.size) (hq : nL ((bl s).take k) = q) (hb : inB (s[k].toNat : Int) 97 99 = false) : nL ((bl s).take (k + 1)) = q := by
  have hc : isL s[k] = inB (s[k].toNat : Int) 97 99 := rfl
  rw [take_snoc h, nL_app, nL_cons, hc, hb, hq]; rfl
theorem count_all {s : ByteArray} {q : Nat} (hq : nL ((bl s).take s.size) = q) : nL (bl s) = q := by
  rw [← hq, List.take_of_length_le (by rw [bl_size]; exact Nat.le_refl _)]

theorem sletters_any (s : ByteArray) (w : World) :
    Calls Tryz.prog 70 #[.string s] w fun e w' => e = .returned (.int .i64 (lsI (bl s))) ∧ w = w' := by
  have cf := sform_any s w
  cases h : fOf (bl s) with
  | none =>
    rw [lsI_f h]
    rw [isF_f h] at cf
    clear h
    go_enter Tryz.func70, Tryz.ntmps70
    go_wp2_with fail
    refine cf.mono ?_
    rintro e w1 ⟨rfl, rfl⟩
    go_wp2_with fail
    go_ret
    exact ⟨rfl, rfl⟩
  | some t =>
    obtain ⟨ht, hl⟩ := fOf_some h
    have hs : s.size ≤ 60 := by rw [bl_size, ht]; exact hl
    have e := Lib.hid (show lsI (bl s) = (nL (bl s) : Int) by rw [lsI_t h, ht, nL_txt])
    rw [isF_t h] at cf
    clear h ht hl
    go_enter Tryz.func70, Tryz.ntmps70
    go_wp2_with fail
    refine cf.mono ?_
    rintro e w1 ⟨rfl, rfl⟩
    clear cf
    go_wp2_with fail
    go_loop [3, 4] (fun v i => LRel s v i) (fun _ i => s.size - (intOf i).toNat)
    case atStart => exact ⟨0, 0, Nat.zero_le _, rfl, rfl, Nat.le_refl _, Lib.hid rfl⟩
    case round =>
      obtain ⟨k, q, hk, rfl, rfl, hqk, hq⟩ := hrel
      by_cases hlt : k < s.size
      · have hu : s[k].toNat < 256 := UInt8.toNat_lt _
        cases hb : inB (s[k].toNat : Int) 97 99
        · have hfin := Lib.hid (count_no hlt hq.out hb)
          go_wp2_with (go_at_call 96; refine (in_any _ _ _ _).mono ?_; rintro e w' ⟨rfl, rfl⟩)
          go_round
          case rel => exact ⟨k + 1, q, by omega, by go_num, rfl, by omega, hfin⟩
          case measure => simp [intOf]; omega
        · have hfin := Lib.hid (count_yes hlt hq.out hb)
          go_wp2_with (go_at_call 96; refine (in_any _ _ _ _).mono ?_; rintro e w' ⟨rfl, rfl⟩)
          go_round
          case rel => exact ⟨k + 1, q + 1, by omega, by go_num, by go_num, by omega, hfin⟩
          case measure => simp [intOf]; omega
      · obtain rfl : k = s.size := by omega
        have hall := Lib.hid (count_all hq.out)
        go_wp2
        go_ret
        exact ⟨by rw [e.out, hall.out]; rfl, rfl⟩

end Go.Proofs.YtlnffpofbfigaaaGreatDoor

/-
  A desk as it lies: pairs of a chain's steps and a formula in a row of two cells each; the model's LaidOk, DeskOk.
-/
namespace Go.Proofs.YtlnffpofbfigaaaGreatDoor
open Go.RowKit

def bs (l : List UInt8) : ByteArray := ⟨l.toArray⟩
theorem bl_bs (l : List UInt8) : bl (bs l) = l := rfl
theorem bs_bl (s : ByteArray) : bs (bl s) = s := rfl
theorem bs_size (l : List UInt8) : (bs l).size = l.length := by rw [bl_size, bl_bs]
def ldV (x : Ld) : Value := .agg #[.int .i64 x.1, .string (bs x.2)]
def ddV (a : Dd) : Value := .agg #[.int .i64 a.1, .int .i64 a.2.1, .string (bs a.2.2)]
def nilLd : Ld := (0, [])

/-- Pairs as they lie, one behind the other. -/
def LdsAt (w : World) (a : Option Addr) (xs : List Ld) : Prop :=
  xs.length ≤ maxLen ∧ (xs = [] ∨ ∃ b off, a = some ⟨b, off, none⟩ ∧ b < w.heap.size ∧ ∀ i, i < xs.length → w.cell? ⟨b, off + i * 2, none⟩ = some (.int .i64 (xs.getD i nilLd).1) ∧ w.cell? ⟨b, off + i * 2 + 1, none⟩ = some (.string (bs (xs.getD i nilLd).2)))
theorem LdsAt.kept {w w' : World} {a : Option Addr} {xs : List Ld} {row : Option Nat} (h : LdsAt w a xs) (hg : w.grownBy w' row) (hne : ∀ x, a = some x → some x.block ≠ row) : LdsAt w' a xs := by
  refine ⟨h.1, ?_⟩
  rcases h.2 with h | ⟨b, off, ha, hb, hc⟩
  · exact .inl h
  · exact .inr ⟨b, off, ha, Nat.lt_of_lt_of_le hb hg.size, fun i hi => ⟨(World.cell?_of_block (w := w) (a := ⟨b, off + i * 2, none⟩) (hg.block b hb (hne _ ha))).trans (hc i hi).1, (World.cell?_of_block (w := w) (a := ⟨b, off + i * 2 + 1, none⟩) (hg.block b hb (hne _ ha))).trans (hc i hi).2⟩⟩
theorem LdsAt.grown {w w' : World} {a : Option Addr} {xs : List Ld} (h : LdsAt w a xs) (hg : w.grownBy w' none) : LdsAt w' a xs := h.kept hg (by simp)
theorem LdsAt.nil (w : World) (a : Option Addr) : LdsAt w a [] := ⟨by simp, .inl rfl⟩

/-- A block of cells, as it lies. -/
def CellsAt (W : World) (b : Nat) (vs : Array Value) (T : TypeId) : Prop := W.heap[b]? = some (.cells vs T (0, 0))
theorem CellsAt.new (W : World) (vs : Array Value) (T : TypeId) : CellsAt (W.alloc (.cells vs T)) W.heap.size vs T := heap_alloc_new W _
theorem CellsAt.lt {W : World} {b : Nat} {vs : Array Value} {T : TypeId} (h : CellsAt W b vs T) : b < W.heap.size := (Array.getElem?_eq_some_iff.1 h).1
theorem CellsAt.kept {W W' : World} {row : Option Nat} {b : Nat} {vs : Array Value} {T : TypeId} (h : CellsAt W b vs T) (hg : W.grownBy W' row) (hne : some b ≠ row) : CellsAt W' b vs T := (hg.block b h.lt hne).trans h
theorem CellsAt.grown {W W' : World} {b : Nat} {vs : Array Value} {T : TypeId} (h : CellsAt W b vs T) (hg : W.grownBy W' none) : CellsAt W' b vs T := h.kept hg (by simp)
theorem CellsAt.cell {W : World} {b : Nat} {vs : Array Value} {T : TypeId} (h : CellsAt W b vs T) {i : Nat} {v : Value} (hi : vs[i]? = some v) : W.cell? ⟨b, i, none⟩ = some v := by
  simp [World.cell?, show W.heap[b]? = _ from h, hi]
theorem CellsAt.three {W : World} {b : Nat} {u v x : Value} {T : TypeId} (h : CellsAt W b #[u, v, x] T) : W.cell? ⟨b, 0, none⟩ = some u ∧ W.cell? ⟨b, 1, none⟩ = some v ∧ W.cell? ⟨b, 2, none⟩ = some x :=
  ⟨h.cell rfl, h.cell rfl, h.cell rfl⟩

theorem slaid_any (x : Ld) (w : World) :
    Calls Tryz.prog 49 #[ldV x] w fun e w' => e = .returned (.bool (ldB x)) ∧ w.grownBy w' none := by
  obtain ⟨n, s⟩ := x
  have hl : ldB (n, s) = (inB n 1 6 && isF s) := rfl
  have hb : bl (bs s) = s := rfl
  unfold ldV
  go_enter Tryz.func49, Tryz.ntmps49
  cases hn : inB n 1 6
  · go_wp2_with (first | (go_at_call 96; refine (in_any _ _ _ _).mono ?_; rintro e w' ⟨rfl, rfl⟩))
    go_ret
    rw [hl, hn]
    exact ⟨rfl, World.grownBy_alloc _ _ none⟩
  · go_wp2_with (first | (go_at_call 96; refine (in_any _ _ _ _).mono ?_; rintro e w' ⟨rfl, rfl⟩) | (go_at_call 74; refine (sform_any _ _).mono ?_; rintro e w' ⟨rfl, rfl⟩))
    go_ret
    rw [hl, hn]
    exact ⟨rfl, World.grownBy_alloc _ _ none⟩

theorem all_take {xs : List Ld} {k : Nat} (h : ∀ j, j < k → ldB (xs.getD j nilLd) = true) (hk : k = xs.length) : ∀ x ∈ xs, ldB x = true := by
  intro x hx
  obtain ⟨j, hj, rfl⟩ := List.mem_iff_getElem.1 hx
  have := h j (by omega)
  rwa [List.getD_eq_getElem?_getD, List.getElem?_eq_getElem hj] at this
theorem getLd_mem {xs : List Ld} {k : Nat} (h : k < xs.length) : xs.getD k nilLd ∈ xs := by
  rw [List.getD_eq_getElem?_getD, List.getElem?_eq_getElem h]
  exact List.getElem_mem h
theorem dkB_bad {x : Ld} {xs : List Ld} {k : Nat} (hk : k < xs.length) (h : ldB (xs.getD k nilLd) = false) : dkB (x, xs) = false := by
  cases e : dkB (x, xs)
  · rfl
  · rw [(dkB_of e).1 _ (getLd_mem hk)] at h; cases h
theorem dkB_all {x : Ld} {xs : List Ld} (h : ∀ y ∈ xs, ldB y = true) : dkB (x, xs) = (ldB x && decide (xs.length ≤ 8)) := by
  unfold dkB
  rw [List.all_eq_true.2 h]; rfl

def DkRel (xs : List Ld) (w : World) (i : Value) (wr : World) : Prop := ∃ k : Nat, k ≤ xs.length ∧ i = .int .i64 k ∧ (∀ j, j < k → ldB (xs.getD j nilLd) = true) ∧ w.grownBy wr none

set_option maxHeartbeats 1000000 in
theorem sdesk_any (n : Int) (s : List UInt8) (a : Option Addr) (cap : Nat) (xs : List Ld) (w : World) (h : LdsAt w a xs) :
    Calls Tryz.prog 13 #[.agg #[.int .i64 n, .string (bs s), .slice a xs.length cap]] w fun e w' => e = .returned (.bool (dkB ((n, s), xs))) ∧ w.grownBy w' none := by
  have hm := h.1
  unfold maxLen at hm
  go_enter Tryz.func13, Tryz.ntmps13
  go_wp2
  generalize hw1 : w.alloc (Obj.cells #[Value.int IntKind.i64 n, Value.string (bs s), Value.slice a xs.length cap] 32) = w1
  go_loopw [3] (fun i wr => DkRel xs w1 i wr) (fun i _ => xs.length - (intOf i).toNat)
  case atStart => exact ⟨0, by omega, rfl, fun j hj => absurd hj (by omega), grownBy_refl _ _⟩
  case round =>
    obtain ⟨k, hk, rfl, hall, hgr⟩ := hrel
    obtain ⟨hB0, hB1, hB2⟩ := ((show CellsAt w1 w.heap.size _ _ by rw [← hw1]; exact CellsAt.new _ _ _).grown hgr).three
    by_cases hlt : k < xs.length
    · have hx2 := (h.grown (by rw [← hw1]; exact World.grownBy_alloc _ _ none)).grown hgr
      rcases hx2.2 with h0 | ⟨b, off, rfl, hb, hc⟩
      · rw [h0] at hlt; simp at hlt
      obtain ⟨c1, c2⟩ := hc k hlt
      clear hx2 hc
      generalize hp : xs.getD k nilLd = p at *
      have Hgr := Lib.hid hgr
      clear hgr
      have cc := slaid_any p
      unfold ldV at cc
      cases hf : ldB p
      · rw [hf] at cc
        go_wp2_with (first | (go_at_call 49; refine (cc _).mono ?_; rintro e w' ⟨rfl, hg⟩))
        go_ret
        refine ⟨?_, grownBy_trans (grownBy_trans (World.grownBy_alloc _ _ none) (by rw [hw1]; exact Hgr.out)) hg⟩
        rw [dkB_bad hlt (by rw [hp]; exact hf)]; rfl
      · rw [hf] at cc
        go_wp2_with (first | (go_at_call 49; refine (cc _).mono ?_; rintro e w' ⟨rfl, hg⟩))
        go_roundw
        case rel => exact ⟨k + 1, by omega, by go_num, fun j hj => by
          by_cases e : j = k
          · subst e; rw [hp]; exact hf
          · exact hall j (by omega), grownBy_trans Hgr.out hg⟩
        case measure => simp [intOf]; omega
    · obtain rfl : k = xs.length := by omega
      have Hgr := Lib.hid hgr
      clear hgr
      have hd := dkB_all (x := (n, s)) (all_take hall rfl)
      have cc := slaid_any (n, s)
      unfold ldV at cc
      have hfin : ∀ w', wr.grownBy w' none → w.grownBy w' none := fun w' hg => grownBy_trans (grownBy_trans (World.grownBy_alloc _ _ none) (by rw [hw1]; exact Hgr.out)) hg
      cases hf : ldB (n, s)
      · rw [hf] at cc hd
        go_wp2_with (first | (go_at_call 49; refine (cc _).mono ?_; rintro e w' ⟨rfl, hg⟩))
        go_ret
        exact ⟨by rw [hd]; rfl, hfin _ hg⟩
      · rw [hf] at cc hd
        go_wp2_with (first | (go_at_call 49; refine (cc _).mono ?_; rintro e w' ⟨rfl, hg⟩; obtain ⟨hB0, hB1, hB2⟩ := ((show CellsAt w1 w.heap.size _ _ by rw [← hw1]; exact CellsAt.new _ _ _).grown (grownBy_trans Hgr.out hg)).three))
        go_ret
        refine ⟨?_, hfin _ hg⟩
        have e8 : (true && decide (xs.length ≤ 8)) = decide ((xs.length : Int) ≤ 8) := by
          rw [Bool.true_and]; exact decide_eq_decide.2 (by omega)
        rw [hd, e8]; rfl

end Go.Proofs.YtlnffpofbfigaaaGreatDoor

/-
  What a deed makes of a chain and a formula: the model's l12Made.
-/
namespace Go.Proofs.YtlnffpofbfigaaaGreatDoor
open Go.RowKit

/-- What is told of what a deed makes: a pair and whether it is one; the pair counts only then. -/
def MadePost (o : Option Ld) (w : World) (e : Ending) (w' : World) : Prop :=
  (∃ v b, e = .returned (.tuple #[v, .bool b]) ∧ (∃ y, v = ldV y) ∧ (match o with | some y => (ldB y = true → b = true ∧ v = ldV y) ∧ (ldB y = false → b = false) | none => b = false)) ∧ w.grownBy w' none

theorem CellsAt.frozen {W : World} {b : Nat} {vs : Array Value} {T : TypeId} (h : CellsAt W b vs T) (i : Nat) : W.frozen? ⟨b, i, none⟩ = false := by
  simp [World.frozen?, show W.heap[b]? = _ from h]
/-- The fourth of four new blocks, and the third. -/
theorem CellsAt.fourth (w : World) (A B C : Obj) (vs : Array Value) (T : TypeId) : CellsAt ((((w.alloc A).alloc B).alloc C).alloc (.cells vs T)) (w.heap.size + 1 + 1 + 1) vs T := by
  have e : (((w.alloc A).alloc B).alloc C).heap.size = w.heap.size + 1 + 1 + 1 := by simp only [World.alloc, Array.size_push]
  rw [← e]; exact CellsAt.new _ vs T
theorem CellsAt.third (w : World) (A B D : Obj) (vs : Array Value) (T : TypeId) : CellsAt ((((w.alloc A).alloc B).alloc (.cells vs T)).alloc D) (w.heap.size + 1 + 1) vs T := by
  have e : ((w.alloc A).alloc B).heap.size = w.heap.size + 1 + 1 := by simp only [World.alloc, Array.size_push]
  rw [← e]; exact (CellsAt.new ((w.alloc A).alloc B) vs T).grown (World.grownBy_alloc _ _ none)

/-- What the world behind the last call holds of the pair that was made and of the result's block. -/
def OutB (w' : World) (h : Nat) (x y : Value) : Prop :=
  (w'.cell? ⟨h + 1 + 1 + 1, 0, none⟩ = some x ∧ w'.cell? ⟨h + 1 + 1 + 1, 1, none⟩ = some y) ∧ (∃ u v, w'.cell? ⟨h + 1 + 1, 0, none⟩ = some u ∧ w'.cell? ⟨h + 1 + 1, 1, none⟩ = some v ∧ Hid (CellsAt w' (h + 1 + 1) #[u, v] 29)) ∧ w'.frozen? ⟨h + 1 + 1, 0, none⟩ = false ∧ w'.frozen? ⟨h + 1 + 1, 1, none⟩ = false
theorem outB_of {w w' : World} {A B : Obj} {u v x y : Value} {T' : TypeId} (hg : ((((w.alloc A).alloc B).alloc (.cells #[u, v] 29)).alloc (.cells #[x, y] T')).drew.grownBy w' none) : OutB w' w.heap.size x y := by
  have h4 := (CellsAt.fourth w A B (.cells #[u, v] 29) #[x, y] T')
  have h3 := (CellsAt.third w A B (.cells #[x, y] T') #[u, v] 29)
  have g := grownBy_trans (grownBy_drew (grownBy_refl ((((w.alloc A).alloc B).alloc (.cells #[u, v] 29)).alloc (.cells #[x, y] T')) none)) hg
  have h4 := h4.grown g
  have h3 := h3.grown g
  exact ⟨⟨h4.cell rfl, h4.cell rfl⟩, ⟨u, v, h3.cell rfl, h3.cell rfl, Lib.hid h3⟩, h3.frozen 0, h3.frozen 1⟩

theorem grownBy_put {w w' : World} {b : Nat} (h : w.grownBy w' none) (hb : w.heap.size ≤ b) (i : Nat) (v : Value) : w.grownBy (w'.setCell ⟨b, i, none⟩ v) none := by
  have k := grownBy_set w' b i v
  refine ⟨k.os.trans h.os, k.tape.trans h.tape, k.output.trans h.output, Nat.le_trans h.size k.size, fun c hc _ => ?_⟩
  rw [k.block c (Nat.lt_of_lt_of_le hc h.size) (by intro e; cases e; omega)]
  exact h.block c hc (by simp)
theorem made_grown {w w' : World} {A B C D : Obj} (hg : ((((w.alloc A).alloc B).alloc C).alloc D).drew.grownBy w' none) (u v : Value) : w.grownBy ((w'.setCell ⟨w.heap.size + 1 + 1, 0, none⟩ u).setCell ⟨w.heap.size + 1 + 1, 1, none⟩ v) none := by
  have a1 := World.grownBy_alloc w A none
  have a2 := grownBy_trans a1 (World.grownBy_alloc _ B none)
  have a3 := grownBy_trans a2 (World.grownBy_alloc _ C none)
  have a4 := grownBy_trans a3 (World.grownBy_alloc _ D none)
  exact grownBy_put (grownBy_put (grownBy_trans (grownBy_drew a4) hg) (by omega) 0 u) (by omega) 1 v
theorem CellsAt.set {W : World} {b : Nat} {vs : Array Value} {T : TypeId} (h : CellsAt W b vs T) (i : Nat) (v : Value) : CellsAt (W.setCell ⟨b, i, none⟩ v) b (vs.setIfInBounds i v) T := by
  unfold CellsAt World.setCell
  simp only [Array.getElem?_modify, if_true, show W.heap[b]? = _ from h, Option.map_some]
  rfl
theorem CellsAt.put2 {W : World} {b : Nat} {u v : Value} {T : TypeId} (h : CellsAt W b #[u, v] T) (x y : Value) : CellsAt ((W.setCell ⟨b, 0, none⟩ x).setCell ⟨b, 1, none⟩ y) b #[x, y] T := (h.set 0 x).set 1 y
theorem sizeLd : (Tryz.prog.info? 29).map (·.size) = some 2 := by kernel_rfl
theorem resLd {fn : Func} {p u : Tmp} (h : fn.results = #[.cell p 29, .tmp u]) (tmps : Array Value) {w : World} {B : Nat} {x y : Value} {b : Bool} (hp : tmps.getD p undef = .pointer (some ⟨B, 0, none⟩)) (hu : tmps.getD u undef = .bool b) (hB : CellsAt w B #[x, y] 29) :
    (results fn tmps).run Tryz.prog w = .ok (.tuple #[.agg #[x, y], .bool b]) w := by
  rw [results_cell_tmp h, hp, hu]
  have := run_loadVar_row w B 29 29 #[x, y] (0, 0) _ hB Tryz.underlying29 rfl sizeLd
  simp only [asAddr, Sem.run_pure, Result.andThen_ok, this]
theorem made_some {y : Ld} {v : Value} {w w' : World} (hv : v = ldV y) (h : w.grownBy w' none) : MadePost (some y) w (.returned (.tuple #[v, .bool (ldB y)])) w' :=
  ⟨⟨_, _, rfl, ⟨y, hv⟩, fun k => ⟨k, hv⟩, fun k => k⟩, h⟩
theorem made_none {y : Ld} {v : Value} {w w' : World} (hv : v = ldV y) (h : w.grownBy w' none) : MadePost none w (.returned (.tuple #[v, .bool false])) w' :=
  ⟨⟨_, _, rfl, ⟨y, hv⟩, rfl⟩, h⟩
theorem bs_app (l m : List UInt8) : bs l ++ bs m = bs (l ++ m) := bl_inj (by rw [bl_bs]; show ((bs l ++ bs m).data.toList) = _; simp [bs])
set_option maxHeartbeats 1600000 in
theorem smade_0 (x : Ld) (n : Int) (w : World) :
    Calls Tryz.prog 109 #[ldV x, ddV (0, n, [])] w (MadePost (some (n, x.2)) w) := by
  obtain ⟨m, s⟩ := x
  have cc := slaid_any (n, s)
  unfold ldV at cc
  have hb0 : bs ([] : List UInt8) = ⟨#[]⟩ := rfl
  unfold ldV ddV
  try rw [show bs ([] : List UInt8) = ⟨#[]⟩ from rfl]
  go_enter Tryz.func109, Tryz.ntmps109
  go_wp2
  go_region_with (go_at_call 49; refine (cc _).mono ?_; rintro e w' ⟨rfl, hg⟩; obtain ⟨⟨a0, a1⟩, ⟨z0, z1, b0, b1, HB⟩, f0, f1⟩ := outB_of hg)
  all_goals go_wp2
  all_goals exact bodyPost_ret (resLd rfl _ rfl rfl (HB.out.put2 _ _)) rfl (made_some rfl (made_grown hg _ _))

set_option maxHeartbeats 1600000 in
theorem smade_1 (x : Ld) (t : List UInt8) (w : World) :
    Calls Tryz.prog 109 #[ldV x, ddV (1, 0, t)] w (MadePost (some (x.1, t)) w) := by
  obtain ⟨m, s⟩ := x
  have cc := slaid_any (m, t)
  unfold ldV at cc
  unfold ldV ddV
  try rw [show bs ([] : List UInt8) = ⟨#[]⟩ from rfl]
  go_enter Tryz.func109, Tryz.ntmps109
  go_wp2
  go_region_with (go_at_call 49; refine (cc _).mono ?_; rintro e w' ⟨rfl, hg⟩; obtain ⟨⟨a0, a1⟩, ⟨z0, z1, b0, b1, HB⟩, f0, f1⟩ := outB_of hg)
  all_goals go_wp2
  all_goals exact bodyPost_ret (resLd rfl _ rfl rfl (HB.out.put2 _ _)) rfl (made_some rfl (made_grown hg _ _))

set_option maxHeartbeats 1600000 in
theorem smade_2 (x : Ld) (hs : x.2.length ≤ 60) (w : World) :
    Calls Tryz.prog 109 #[ldV x, ddV (2, 0, [])] w (MadePost (some (x.1, 33 :: x.2)) w) := by
  obtain ⟨m, s⟩ := x
  have cc := slaid_any (m, 33 :: s)
  unfold ldV at cc
  have z := bs_size s
  have e : bs (33 :: s) = ⟨#[33]⟩ ++ bs s := (bs_app [33] s).symm
  rw [e] at cc
  change s.length ≤ 60 at hs
  unfold ldV ddV
  try rw [show bs ([] : List UInt8) = ⟨#[]⟩ from rfl]
  go_enter Tryz.func109, Tryz.ntmps109
  go_wp2
  go_region_with (go_at_call 49; refine (cc _).mono ?_; rintro e w' ⟨rfl, hg⟩; obtain ⟨⟨a0, a1⟩, ⟨z0, z1, b0, b1, HB⟩, f0, f1⟩ := outB_of hg)
  all_goals go_wp2
  all_goals exact bodyPost_ret (resLd rfl _ rfl rfl (HB.out.put2 _ _)) rfl (made_some (by unfold ldV; rw [e]) (made_grown hg _ _))

set_option maxHeartbeats 1600000 in
theorem smade_3 (x : Ld) (t : List UInt8) (ht : isF t = true) (hs : x.2.length ≤ 60) (w : World) :
    Calls Tryz.prog 109 #[ldV x, ddV (3, 0, t)] w (MadePost (some (x.1, 40 :: (x.2 ++ 42 :: (t ++ [41])))) w) := by
  obtain ⟨m, s⟩ := x
  have cc := slaid_any (m, 40 :: (s ++ 42 :: (t ++ [41])))
  unfold ldV at cc
  have z := bs_size s
  have zt := bs_size t
  have zl := isF_len ht
  have e : bs (40 :: (s ++ 42 :: (t ++ [41]))) = ⟨#[40]⟩ ++ bs s ++ ⟨#[42]⟩ ++ bs t ++ ⟨#[41]⟩ := by
    rw [show (⟨#[40]⟩ : ByteArray) = bs [40] from rfl, show (⟨#[42]⟩ : ByteArray) = bs [42] from rfl, show (⟨#[41]⟩ : ByteArray) = bs [41] from rfl, bs_app, bs_app, bs_app, bs_app]; simp
  rw [e] at cc
  change s.length ≤ 60 at hs
  have hbt : isF (bl (bs t)) = true := ht
  unfold ldV ddV
  try rw [show bs ([] : List UInt8) = ⟨#[]⟩ from rfl]
  go_enter Tryz.func109, Tryz.ntmps109
  go_wp2_with (first | (go_at_call 74; refine (sform_any _ _).mono ?_; rw [hbt]; rintro e w1 ⟨rfl, rfl⟩))
  go_region_with (go_at_call 49; refine (cc _).mono ?_; rintro e w' ⟨rfl, hg⟩; obtain ⟨⟨a0, a1⟩, ⟨z0, z1, b0, b1, HB⟩, f0, f1⟩ := outB_of hg)
  all_goals go_wp2
  all_goals exact bodyPost_ret (resLd rfl _ rfl rfl (HB.out.put2 _ _)) rfl (made_some (by unfold ldV; rw [e]) (made_grown hg _ _))

set_option maxHeartbeats 1600000 in
theorem smade_4 (x : Ld) (t : List UInt8) (ht : isF t = true) (hs : x.2.length ≤ 60) (w : World) :
    Calls Tryz.prog 109 #[ldV x, ddV (4, 0, t)] w (MadePost (some (x.1, 40 :: (t ++ 62 :: (x.2 ++ [41])))) w) := by
  obtain ⟨m, s⟩ := x
  have cc := slaid_any (m, 40 :: (t ++ 62 :: (s ++ [41])))
  unfold ldV at cc
  have z := bs_size s
  have zt := bs_size t
  have zl := isF_len ht
  have e : bs (40 :: (t ++ 62 :: (s ++ [41]))) = ⟨#[40]⟩ ++ bs t ++ ⟨#[62]⟩ ++ bs s ++ ⟨#[41]⟩ := by
    rw [show (⟨#[40]⟩ : ByteArray) = bs [40] from rfl, show (⟨#[62]⟩ : ByteArray) = bs [62] from rfl, show (⟨#[41]⟩ : ByteArray) = bs [41] from rfl, bs_app, bs_app, bs_app, bs_app]; simp
  rw [e] at cc
  change s.length ≤ 60 at hs
  have hbt : isF (bl (bs t)) = true := ht
  unfold ldV ddV
  try rw [show bs ([] : List UInt8) = ⟨#[]⟩ from rfl]
  go_enter Tryz.func109, Tryz.ntmps109
  go_wp2_with (first | (go_at_call 74; refine (sform_any _ _).mono ?_; rw [hbt]; rintro e w1 ⟨rfl, rfl⟩))
  go_region_with (go_at_call 49; refine (cc _).mono ?_; rintro e w' ⟨rfl, hg⟩; obtain ⟨⟨a0, a1⟩, ⟨z0, z1, b0, b1, HB⟩, f0, f1⟩ := outB_of hg)
  all_goals go_wp2
  all_goals exact bodyPost_ret (resLd rfl _ rfl rfl (HB.out.put2 _ _)) rfl (made_some (by unfold ldV; rw [e]) (made_grown hg _ _))

end Go.Proofs.YtlnffpofbfigaaaGreatDoor

/-
  impl.LettersIn: the methods by which a tree counts its letters, by induction on the tree. No condition.
-/
namespace Go.Proofs.YtlnffpofbfigaaaGreatDoor
open Go.RowKit Go.Maps Go.Joins

def lsFn : Tr → FuncId
  | .lt _ => 236
  | .tru _ => 238
  | .neg _ => 241
  | .bin _ _ _ => 246

theorem ls_meth (t : Tr) (F : Nat) (w : World) : (method (F + 1) (nodeT t) (nodeP t) "loop.example/manyvalues/impl.letters").run Tryz.prog w = .ok (lsFn t, nodeP t) w := by
  cases t <;> kernel_rfl

theorem ls_nil (t : Tr) (F : Nat) (w : World) : (nilAhead (F + 1) (nodeT t) (nodeP t) "loop.example/manyvalues/impl.letters").run Tryz.prog w = .ok (some false) w := by
  cases t <;> kernel_rfl

theorem ls_enter (t : Tr) (args : Array Value) (w : World) : (callFunc (lsFn t) args).run Tryz.prog w = .ok (.enter (lsFn t) args) w := by
  cases t <;> kernel_rfl

def LsOk (t : Tr) : Prop := ∀ w : World, Calls Tryz.prog (lsFn t) #[nodeP t] w fun e w' => e = .returned (.int .i64 (t.ls : Int)) ∧ w.grownBy w' none

theorem ls_neg {x : Tr} (ih : LsOk x) : LsOk (.neg x) := by
  intro w
  have hm := ls_meth x
  have he := ls_enter x
  show Calls Tryz.prog 241 #[.agg #[.iface (nodeT x) (nodeP x)]] w _
  go_enter Tryz.func241, Tryz.ntmps241
  go_wp2_with fail
  refine (ih _).mono ?_
  rintro e w1 ⟨rfl, g1⟩
  go_wp2_with fail
  go_ret
  exact ⟨rfl, grownBy_trans (World.grownBy_alloc _ _ _) g1⟩

set_option maxHeartbeats 2000000 in
theorem ls_bin {g : Sg} {x y : Tr} (ihx : LsOk x) (ihy : LsOk y) (hx : x.ls ≤ 60) (hy : y.ls ≤ 60) : LsOk (.bin g x y) := by
  intro w
  have hm := ls_meth x
  have hm2 := ls_meth y
  have he := ls_enter x
  have he2 := ls_enter y
  have hn := ls_nil x
  have hn2 := ls_nil y
  have hw : IntKind.i64.wrap ((x.ls : Int) + (y.ls : Int)) = (x.ls : Int) + (y.ls : Int) := IntWalk.i64_in _ (by omega)
  show Calls Tryz.prog 246 #[.agg #[.string ⟨#[g.byte]⟩, .func (.func g.fn) #[] #[], .iface (nodeT x) (nodeP x), .iface (nodeT y) (nodeP y)]] w _
  go_enter Tryz.func246, Tryz.ntmps246
  go_wp2_with fail
  have hb : (w.alloc (.cells #[.string ⟨#[g.byte]⟩, .func (.func g.fn) #[] #[], .iface (nodeT x) (nodeP x), .iface (nodeT y) (nodeP y)] 205)).drew.cell? ⟨w.heap.size, 2, none⟩ = some (.iface (nodeT x) (nodeP x)) ∧
    (w.alloc (.cells #[.string ⟨#[g.byte]⟩, .func (.func g.fn) #[] #[], .iface (nodeT x) (nodeP x), .iface (nodeT y) (nodeP y)] 205)).drew.cell? ⟨w.heap.size, 3, none⟩ = some (.iface (nodeT y) (nodeP y)) ∧
    w.grownBy (w.alloc (.cells #[.string ⟨#[g.byte]⟩, .func (.func g.fn) #[] #[], .iface (nodeT x) (nodeP x), .iface (nodeT y) (nodeP y)] 205)).drew none :=
    ⟨World.cell?_alloc_mark w _ _ _ _, World.cell?_alloc_mark w _ _ _ _, grownBy_drew (World.grownBy_alloc _ _ _)⟩
  go_region_held3 (fun w' => w'.cell? ⟨w.heap.size, 2, none⟩ = some (.iface (nodeT x) (nodeP x)) ∧ w'.cell? ⟨w.heap.size, 3, none⟩ = some (.iface (nodeT y) (nodeP y)) ∧ w.grownBy w' none)
    (first | exact hb | exact held2 (by assumption) gx | exact held2 (by assumption) gy)
    (first | (refine (ihx _).mono ?_; rintro e w2 ⟨rfl, gx⟩) | (refine (ihy _).mono ?_; rintro e w3 ⟨rfl, gy⟩))
  all_goals
    go_wp2_with fail
    go_ret
    exact ⟨congrArg (fun z : Int => Ending.returned (Value.int .i64 z)) (by show _ = ((x.ls + y.ls : Nat) : Int); omega), grownBy_trans (grownBy_trans hb.2.2 gx) gy⟩

theorem ls_all : ∀ t : Tr, t.ls ≤ 60 → LsOk t := by
  intro t
  induction t with
  | lt k =>
    intro _ w
    show Calls Tryz.prog 236 #[.int .i64 k.num] w _
    go_enter Tryz.func236, Tryz.ntmps236
    go_wp2_with fail
    go_ret
    exact ⟨rfl, grownBy_refl _ _⟩
  | tru b =>
    intro _ w
    show Calls Tryz.prog 238 #[.bool b] w _
    go_enter Tryz.func238, Tryz.ntmps238
    go_wp2_with fail
    go_ret
    exact ⟨rfl, grownBy_refl _ _⟩
  | neg x ih => intro h; exact ls_neg (ih h)
  | bin g x y ihx ihy =>
    intro h
    have hxy : x.ls + y.ls ≤ 60 := h
    exact ls_bin (ihx (by omega)) (ihy (by omega)) (by omega) (by omega)

theorem letters_any (s : ByteArray) (w : World) :
    Calls Tryz.prog 155 #[.string s] w fun e w' => e = .returned (.int .i64 (lsI (bl s))) ∧ w.grownBy w' none := by
  cases h : fOf (bl s) with
  | none =>
    have ht := tree_no s w h
    rw [lsI_f h]
    clear h
    go_enter Tryz.func155, Tryz.ntmps155
    go_wp2_with fail
    refine ht.mono ?_
    rintro e w1 ⟨v, hv, rfl, g1⟩
    go_wp2_with fail
    go_ret
    exact ⟨rfl, g1⟩
  | some t =>
    have ht := tree_yes s w h
    have hl := ls_le t
    have hl2 := (fOf_some h).2
    have ha := ls_all t (by omega)
    have hm := ls_meth t
    have he := ls_enter t
    rw [lsI_t h]
    clear h hl hl2
    go_enter Tryz.func155, Tryz.ntmps155
    go_wp2_with fail
    refine ht.mono ?_
    rintro e w1 ⟨rfl, g1⟩
    clear ht
    go_wp2_with fail
    refine (ha _).mono ?_
    rintro e w2 ⟨rfl, g2⟩
    go_wp2_with fail
    go_ret
    exact ⟨rfl, grownBy_trans g1 g2⟩

end Go.Proofs.YtlnffpofbfigaaaGreatDoor

/-
  What the functions of chapter 8 answer, as propositions: the laws' walks take them as they come.
-/
namespace Go.Proofs.YtlnffpofbfigaaaGreatDoor
open Go.RowKit

def MovC : Prop := ∀ (n : Int) (s : ByteArray) (w : World), Calls Tryz.prog 156 #[.int .i64 n, .string s] w fun e w' => e = .returned (.int .i64 (movI n (bl s))) ∧ w.grownBy w' none

theorem mov_v (H : MovC) (n : Int) (s : ByteArray) {v : Int} (h : movI n (bl s) = v) (w : World) : Calls Tryz.prog 156 #[.int .i64 n, .string s] w fun e w' => e = .returned (.int .i64 v) ∧ w.grownBy w' none := by rw [← h]; exact H n s w

end Go.Proofs.YtlnffpofbfigaaaGreatDoor

/-
  The draws of chapter 5: some chain, some texts of at most 60 bytes.
-/
namespace Go.Proofs.YtlnffpofbfigaaaGreatDoor
open Go.RowKit

theorem lit10 (k : Nat) (h : k < 10) : ∃ s : ByteArray, (#[.string ⟨#[40, 97, 124, 33, 97, 41]⟩, .string ⟨#[33, 40, 97, 38, 33, 97, 41]⟩, .string ⟨#[40, 97, 62, 40, 97, 42, 97, 41, 41]⟩, .string ⟨#[40, 40, 97, 43, 97, 41, 62, 97, 41]⟩, .string ⟨#[40, 40, 97, 62, 98, 41, 124, 40, 98, 62, 97, 41, 41]⟩, .string ⟨#[40, 97, 62, 40, 98, 62, 97, 41, 41]⟩, .string ⟨#[40, 40, 40, 97, 62, 98, 41, 62, 98, 41, 62, 40, 40, 98, 62, 97, 41, 62, 97, 41, 41]⟩, .string ⟨#[40, 40, 97, 42, 97, 41, 62, 40, 40, 97, 42, 97, 41, 42, 97, 41, 41]⟩, .string ⟨#[40, 33, 97, 62, 40, 97, 62, 98, 41, 41]⟩, .string ⟨#[40, 40, 97, 43, 97, 41, 124, 33, 40, 97, 43, 97, 41, 41]⟩] : Array Value)[k]? = some (.string s) ∧ s.size ≤ 60 := by
  match k, h with
  | 0, _ => exact ⟨_, rfl, by decide⟩
  | 1, _ => exact ⟨_, rfl, by decide⟩
  | 2, _ => exact ⟨_, rfl, by decide⟩
  | 3, _ => exact ⟨_, rfl, by decide⟩
  | 4, _ => exact ⟨_, rfl, by decide⟩
  | 5, _ => exact ⟨_, rfl, by decide⟩
  | 6, _ => exact ⟨_, rfl, by decide⟩
  | 7, _ => exact ⟨_, rfl, by decide⟩
  | 8, _ => exact ⟨_, rfl, by decide⟩
  | 9, _ => exact ⟨_, rfl, by decide⟩

def TrPost (r P : Nat) (w : World) (e : Ending) (w' : World) : Prop :=
  ∃ s : ByteArray, e = .returned (.string s) ∧ s.size ≤ 60 ∧ Rd w' r (P + 45) ∧ w.grownBy w' (some r)

set_option maxHeartbeats 1600000 in
theorem true_draw (n : Int) (w : World) (r P : Nat) (hr : Rd w r P) (hP : P ≤ 70000) (hn : 1 ≤ n) (hn2 : n ≤ 1000) :
    Calls Tryz.prog 120 #[.pointer (some ⟨r, 0, none⟩), .int .i64 n] w (TrPost r P w) := by
  go_enter Tryz.func120, Tryz.ntmps120
  go_wp2_with fail
  refine (pick_any _ _ _ _ hr (by omega)).mono ?_
  rintro e w1 ⟨k, rfl, hk0, hk1, hr1, hg1⟩
  obtain rfl | rfl : k = 0 ∨ k = 1 := by omega
  · go_wp2_with fail
    refine (pick_any _ _ _ _ (hr1.alloc _) (by omega)).mono ?_
    rintro e w2 ⟨j, rfl, hj0, hj1, hr2, hg2⟩
    obtain ⟨j, rfl⟩ := Int.eq_ofNat_of_zero_le hj0
    obtain ⟨s, hC, hs⟩ := lit10 j (by omega)
    have hlt : (j : Int) < 10 := by omega
    have hx := cell_keptD hg2 hr1.lt hC
    clear hC hj0 hj1
    go_wp2_with fail
    go_ret
    exact ⟨s, rfl, hs, hr2.mono (by omega), grownBy_trans hg1 (grownBy_trans (World.grownBy_alloc _ _ _) hg2)⟩
  · go_wp2_with fail
    refine (formed_draw _ _ _ _ hr1 (by omega) hn hn2).mono ?_
    rintro e w2 ⟨s, rfl, hs, hr2, hg2⟩
    go_wp2_with fail
    go_ret
    exact ⟨s, rfl, hs, hr2.mono (by omega), grownBy_trans hg1 hg2⟩

end Go.Proofs.YtlnffpofbfigaaaGreatDoor

/-
  The draws of chapter 8: some chain and rows of at most six values.
-/
namespace Go.Proofs.YtlnffpofbfigaaaGreatDoor
open Go.RowKit

end Go.Proofs.YtlnffpofbfigaaaGreatDoor

/-
  Copies of slices of integers: laws.toIntS; what a slice of integers that came in is.
-/
namespace Go.Proofs.YtlnffpofbfigaaaGreatDoor
open Go.RowKit

end Go.Proofs.YtlnffpofbfigaaaGreatDoor

/-
  impl.pairText: the text of two formulas with a sign between them; impl.shortEnough: a text of at most 60 bytes. The sign is one byte, the texts have at most 100000 together.
-/
namespace Go.Proofs.YtlnffpofbfigaaaGreatDoor
open Go.RowKit

theorem ptx_any (x n y : ByteArray) (h : x.size + y.size ≤ 100000) (hn : n.size = 1) (w : World) :
    Calls Tryz.prog 136 #[.string x, .string n, .string y] w fun e w' => e = .returned (.string (⟨#[40]⟩ ++ x ++ n ++ y ++ ⟨#[41]⟩)) ∧ w = w' := by
  have m : maxLen = 9223372036854775807 := rfl
  go_enter Tryz.func136, Tryz.ntmps136
  go_wp2_with fail
  go_ret
  exact ⟨rfl, rfl⟩

/-- A tree's text, however long. -/
def tb (t : Tr) : ByteArray := ⟨t.txt.toArray⟩
theorem bl_tb (t : Tr) : bl (tb t) = t.txt := rfl
theorem tb_size (t : Tr) : (tb t).size = t.txt.length := by rw [bl_size, bl_tb]
theorem tb_of {s : ByteArray} {t : Tr} (h : fOf (bl s) = some t) : s = tb t := bl_inj (by rw [(fOf_some h).1]; rfl)
end Go.Proofs.YtlnffpofbfigaaaGreatDoor

/-
  What a deed makes of a chain and a formula, where it makes none or takes the formula's basic form: the model's l12Made.
-/
namespace Go.Proofs.YtlnffpofbfigaaaGreatDoor
open Go.RowKit

theorem made4 (w : World) (A B C D : Obj) : w.grownBy ((((w.alloc A).alloc B).alloc C).alloc D) none :=
  grownBy_trans (grownBy_trans (grownBy_trans (World.grownBy_alloc w A none) (World.grownBy_alloc _ B none)) (World.grownBy_alloc _ C none)) (World.grownBy_alloc _ D none)

set_option maxHeartbeats 1600000 in
theorem smade_5 (x : Ld) (hb : basB x.2 = true) (w : World) :
    Calls Tryz.prog 109 #[ldV x, ddV (5, 0, [])] w (MadePost (some (x.1, basT x.2)) w) := by
  obtain ⟨m, s⟩ := x
  have cc := slaid_any (m, basT s)
  have cb := sbasic_any (bs s)
  rw [show basB (bl (bs s)) = true from hb] at cb
  rw [show bbT (bl (bs s)) = bs (basT s) from rfl] at cb
  unfold ldV at cc
  unfold ldV ddV
  rw [show bs ([] : List UInt8) = ⟨#[]⟩ from rfl]
  go_enter Tryz.func109, Tryz.ntmps109
  go_wp2_with (first | (go_at_call 142; refine (cb _).mono ?_; rintro e w1 ⟨rfl, rfl⟩))
  go_region_with (go_at_call 49; refine (cc _).mono ?_; rintro e w' ⟨rfl, hg⟩; obtain ⟨⟨a0, a1⟩, ⟨z0, z1, b0, b1, HB⟩, f0, f1⟩ := outB_of hg)
  all_goals go_wp2
  all_goals exact bodyPost_ret (resLd rfl _ rfl rfl (HB.out.put2 _ _)) rfl (made_some rfl (made_grown hg _ _))

set_option maxHeartbeats 1600000 in
theorem smade_5n (x : Ld) (hb : basB x.2 = false) (w : World) :
    Calls Tryz.prog 109 #[ldV x, ddV (5, 0, [])] w (MadePost none w) := by
  obtain ⟨m, s⟩ := x
  have cb := sbasic_any (bs s)
  rw [show basB (bl (bs s)) = false from hb] at cb
  unfold ldV ddV
  rw [show bs ([] : List UInt8) = ⟨#[]⟩ from rfl]
  go_enter Tryz.func109, Tryz.ntmps109
  go_wp2_with (first | (go_at_call 142; refine (cb _).mono ?_; rintro e w1 ⟨rfl, rfl⟩))
  exact bodyPost_ret (resLd rfl _ rfl rfl (CellsAt.third _ _ _ _ _ _)) rfl (made_none (y := (m, s)) rfl (made4 _ _ _ _ _))

set_option maxHeartbeats 1600000 in
theorem smade_n0 (x : Ld) (n : Int) (t : List UInt8) (ht : t ≠ []) (w : World) :
    Calls Tryz.prog 109 #[ldV x, ddV (0, n, t)] w (MadePost none w) := by
  obtain ⟨m, s⟩ := x
  have he : (bs t).toList.isEmpty = false := by
    rw [ByteArray.toList_eq]
    cases t with
    | nil => exact absurd rfl ht
    | cons c t => rfl
  unfold ldV ddV
  go_enter Tryz.func109, Tryz.ntmps109
  go_wp2
  exact bodyPost_ret (resLd rfl _ rfl rfl (CellsAt.third _ _ _ _ _ _)) rfl (made_none (y := (m, s)) rfl (made4 _ _ _ _ _))

set_option maxHeartbeats 1600000 in
theorem smade_n1 (x : Ld) (n : Int) (t : List UInt8) (hn : n ≠ 0) (w : World) :
    Calls Tryz.prog 109 #[ldV x, ddV (1, n, t)] w (MadePost none w) := by
  obtain ⟨m, s⟩ := x
  have he : (n == 0) = false := beq_false_of_ne hn
  unfold ldV ddV
  go_enter Tryz.func109, Tryz.ntmps109
  go_wp2
  exact bodyPost_ret (resLd rfl _ rfl rfl (CellsAt.third _ _ _ _ _ _)) rfl (made_none (y := (m, s)) rfl (made4 _ _ _ _ _))

set_option maxHeartbeats 1600000 in
theorem smade_n2 (x : Ld) (n : Int) (t : List UInt8) (hn : n ≠ 0) (w : World) :
    Calls Tryz.prog 109 #[ldV x, ddV (2, n, t)] w (MadePost none w) := by
  obtain ⟨m, s⟩ := x
  have he : (n == 0) = false := beq_false_of_ne hn
  unfold ldV ddV
  go_enter Tryz.func109, Tryz.ntmps109
  go_wp2
  exact bodyPost_ret (resLd rfl _ rfl rfl (CellsAt.third _ _ _ _ _ _)) rfl (made_none (y := (m, s)) rfl (made4 _ _ _ _ _))

set_option maxHeartbeats 1600000 in
theorem smade_e2 (x : Ld) (t : List UInt8) (ht : t ≠ []) (w : World) :
    Calls Tryz.prog 109 #[ldV x, ddV (2, 0, t)] w (MadePost none w) := by
  obtain ⟨m, s⟩ := x
  have he : (bs t).toList.isEmpty = false := by
    rw [ByteArray.toList_eq]
    cases t with
    | nil => exact absurd rfl ht
    | cons c t => rfl
  unfold ldV ddV
  go_enter Tryz.func109, Tryz.ntmps109
  go_wp2
  exact bodyPost_ret (resLd rfl _ rfl rfl (CellsAt.third _ _ _ _ _ _)) rfl (made_none (y := (m, s)) rfl (made4 _ _ _ _ _))

set_option maxHeartbeats 1600000 in
theorem smade_n5 (x : Ld) (n : Int) (t : List UInt8) (hn : n ≠ 0) (w : World) :
    Calls Tryz.prog 109 #[ldV x, ddV (5, n, t)] w (MadePost none w) := by
  obtain ⟨m, s⟩ := x
  have he : (n == 0) = false := beq_false_of_ne hn
  unfold ldV ddV
  go_enter Tryz.func109, Tryz.ntmps109
  go_wp2
  exact bodyPost_ret (resLd rfl _ rfl rfl (CellsAt.third _ _ _ _ _ _)) rfl (made_none (y := (m, s)) rfl (made4 _ _ _ _ _))

set_option maxHeartbeats 1600000 in
theorem smade_e5 (x : Ld) (t : List UInt8) (ht : t ≠ []) (w : World) :
    Calls Tryz.prog 109 #[ldV x, ddV (5, 0, t)] w (MadePost none w) := by
  obtain ⟨m, s⟩ := x
  have he : (bs t).toList.isEmpty = false := by
    rw [ByteArray.toList_eq]
    cases t with
    | nil => exact absurd rfl ht
    | cons c t => rfl
  unfold ldV ddV
  go_enter Tryz.func109, Tryz.ntmps109
  go_wp2
  exact bodyPost_ret (resLd rfl _ rfl rfl (CellsAt.third _ _ _ _ _ _)) rfl (made_none (y := (m, s)) rfl (made4 _ _ _ _ _))

set_option maxHeartbeats 1600000 in
theorem smade_n3 (x : Ld) (n : Int) (t : List UInt8) (hn : n ≠ 0) (w : World) :
    Calls Tryz.prog 109 #[ldV x, ddV (3, n, t)] w (MadePost none w) := by
  obtain ⟨m, s⟩ := x
  have he : (n == 0) = false := beq_false_of_ne hn
  unfold ldV ddV
  go_enter Tryz.func109, Tryz.ntmps109
  go_wp2
  exact bodyPost_ret (resLd rfl _ rfl rfl (CellsAt.third _ _ _ _ _ _)) rfl (made_none (y := (m, s)) rfl (made4 _ _ _ _ _))

set_option maxHeartbeats 1600000 in
theorem smade_e3 (x : Ld) (t : List UInt8) (ht : isF t = false) (w : World) :
    Calls Tryz.prog 109 #[ldV x, ddV (3, 0, t)] w (MadePost none w) := by
  obtain ⟨m, s⟩ := x
  have hbt : isF (bl (bs t)) = false := ht
  unfold ldV ddV
  go_enter Tryz.func109, Tryz.ntmps109
  go_wp2_with (first | (go_at_call 74; refine (sform_any _ _).mono ?_; rw [hbt]; rintro e w1 ⟨rfl, rfl⟩))
  exact bodyPost_ret (resLd rfl _ rfl rfl (CellsAt.third _ _ _ _ _ _)) rfl (made_none (y := (m, s)) rfl (made4 _ _ _ _ _))

set_option maxHeartbeats 1600000 in
theorem smade_n4 (x : Ld) (n : Int) (t : List UInt8) (hn : n ≠ 0) (w : World) :
    Calls Tryz.prog 109 #[ldV x, ddV (4, n, t)] w (MadePost none w) := by
  obtain ⟨m, s⟩ := x
  have he : (n == 0) = false := beq_false_of_ne hn
  unfold ldV ddV
  go_enter Tryz.func109, Tryz.ntmps109
  go_wp2
  exact bodyPost_ret (resLd rfl _ rfl rfl (CellsAt.third _ _ _ _ _ _)) rfl (made_none (y := (m, s)) rfl (made4 _ _ _ _ _))

set_option maxHeartbeats 1600000 in
theorem smade_e4 (x : Ld) (t : List UInt8) (ht : isF t = false) (w : World) :
    Calls Tryz.prog 109 #[ldV x, ddV (4, 0, t)] w (MadePost none w) := by
  obtain ⟨m, s⟩ := x
  have hbt : isF (bl (bs t)) = false := ht
  unfold ldV ddV
  go_enter Tryz.func109, Tryz.ntmps109
  go_wp2_with (first | (go_at_call 74; refine (sform_any _ _).mono ?_; rw [hbt]; rintro e w1 ⟨rfl, rfl⟩))
  exact bodyPost_ret (resLd rfl _ rfl rfl (CellsAt.third _ _ _ _ _ _)) rfl (made_none (y := (m, s)) rfl (made4 _ _ _ _ _))

set_option maxHeartbeats 1600000 in
theorem smade_n6 (x : Ld) (k n : Int) (t : List UInt8) (hk : k < 0 ∨ 5 < k) (w : World) :
    Calls Tryz.prog 109 #[ldV x, ddV (k, n, t)] w (MadePost none w) := by
  obtain ⟨m, s⟩ := x
  have k0 : (k == 0) = false := beq_false_of_ne (by omega)
  have k1 : (k == 1) = false := beq_false_of_ne (by omega)
  have k2 : (k == 2) = false := beq_false_of_ne (by omega)
  have k3 : (k == 3) = false := beq_false_of_ne (by omega)
  have k4 : (k == 4) = false := beq_false_of_ne (by omega)
  have k5 : (k == 5) = false := beq_false_of_ne (by omega)
  unfold ldV ddV
  go_enter Tryz.func109, Tryz.ntmps109
  go_wp2
  exact bodyPost_ret (resLd rfl _ rfl rfl (CellsAt.third _ _ _ _ _ _)) rfl (made_none (y := (m, s)) rfl (made4 _ _ _ _ _))

/-- What a deed makes, any deed at all. -/
theorem sdmade_any (x : Ld) (a : Dd) (hs : x.2.length ≤ 60) (w : World) :
    Calls Tryz.prog 109 #[ldV x, ddV a] w (MadePost (rawD x a) w) := by
  obtain ⟨k, n, t⟩ := a
  have hr : rawD x (k, n, t) = (if k = 0 ∧ t = [] then some (n, x.2)
    else if k = 1 ∧ n = 0 then some (x.1, t)
    else if (k, n, t) = ((2, 0, []) : Dd) then some (x.1, 33 :: x.2)
    else if k = 3 ∧ n = 0 ∧ isF t = true then some (x.1, 40 :: (x.2 ++ 42 :: (t ++ [41])))
    else if k = 4 ∧ n = 0 ∧ isF t = true then some (x.1, 40 :: (t ++ 62 :: (x.2 ++ [41])))
    else if (k, n, t) = ((5, 0, []) : Dd) ∧ basB x.2 = true then some (x.1, basT x.2)
    else none) := rfl
  rw [hr]
  by_cases h0 : k = 0
  · subst h0
    by_cases ht : t = []
    · subst ht; rw [if_pos ⟨rfl, rfl⟩]; exact smade_0 x n w
    · rw [if_neg (fun h => ht h.2)]; simp only [Prod.mk.injEq]; simp; exact smade_n0 x n t ht w
  by_cases h1 : k = 1
  · subst h1
    by_cases hn : n = 0
    · subst hn; simp; exact smade_1 x t w
    · simp [hn]; exact smade_n1 x n t hn w
  by_cases h2 : k = 2
  · subst h2
    by_cases hn : n = 0
    · subst hn
      by_cases ht : t = []
      · subst ht; simp; exact smade_2 x hs w
      · simp [ht]; exact smade_e2 x t ht w
    · simp [hn]; exact smade_n2 x n t hn w
  by_cases h3 : k = 3
  · subst h3
    by_cases hn : n = 0
    · subst hn
      by_cases ht : isF t = true
      · simp [ht]; exact smade_3 x t ht hs w
      · simp [ht]; exact smade_e3 x t (by simpa using ht) w
    · simp [hn]; exact smade_n3 x n t hn w
  by_cases h4 : k = 4
  · subst h4
    by_cases hn : n = 0
    · subst hn
      by_cases ht : isF t = true
      · simp [ht]; exact smade_4 x t ht hs w
      · simp [ht]; exact smade_e4 x t (by simpa using ht) w
    · simp [hn]; exact smade_n4 x n t hn w
  by_cases h5 : k = 5
  · subst h5
    by_cases hn : n = 0
    · subst hn
      by_cases ht : t = []
      · subst ht
        by_cases hb : basB x.2 = true
        · simp [hb]; exact smade_5 x hb w
        · simp [hb]; exact smade_5n x (by simpa using hb) w
      · simp [ht]; exact smade_e5 x t ht w
    · simp [hn]; exact smade_n5 x n t hn w
  simp [h0, h1, h2, h3, h4, h5]
  exact smade_n6 x k n t (by omega) w

end Go.Proofs.YtlnffpofbfigaaaGreatDoor

/-
  A pair, a desk, a deed that came in, opened to their cells. No function is named.
-/
namespace Go.Proofs.YtlnffpofbfigaaaGreatDoor
open Go.RowKit Go.ChangeShapes Go.WideShapes Go.Deep Go.Joins

section
variable {H : Type} {enc : TypeId × Value → H} {P : Program} {w : World} {base : Nat} {spare : Nat → Bool} {held : Bool}
/-- What a struct of a number and a text must be. -/
structure PairT (P : Program) (t : TypeId) (f0 f1 : Field) : Prop where
  str : P.underlying t = some (.struct #[f0, f1])
  o0 : f0.offset = 0
  o1 : f1.offset = 1
  c0 : P.cellsOf f0.type = 1
  c1 : P.cellsOf f1.type = 1
  ct : P.cellsOf t = 2
  i0 : P.underlying f0.type = some (.int .i64)
  i1 : P.underlying f1.type = some .string
theorem PairT.read {t : TypeId} {f0 f1 : Field} (T : PairT P t f0 f1) {fuel : Nat} {u v : Value} {x : DataW H × List MemPlace} (h : DataW.trod enc P w base spare held fuel t [u, v] = some x) : ∃ (n : Int) (s : ByteArray), u = .int .i64 n ∧ v = .string s ∧ (Lit.int .i64 n).wf = true ∧ s.size ≤ maxLen := by
  obtain ⟨xs, n, _, _, _, hl, hf⟩ := DataW.trod_struct T.str h
  have a := hf 0 f0 rfl
  have b := hf 1 f1 rfl
  rw [T.o0, T.c0] at a
  rw [T.o1, T.c1] at b
  obtain ⟨y0, y1, rfl⟩ : ∃ y0 y1, xs = [y0, y1] := by
    match xs, hl with
    | [y0, y1], _ => exact ⟨y0, y1, rfl⟩
  obtain ⟨k, e0, _, hk⟩ := DataW.trod_int (x := y0) T.i0 (by simpa using a)
  obtain ⟨s, e1, _, hs⟩ := DataW.trod_string (x := y1) T.i1 (by simpa using b)
  simp at e0 e1
  exact ⟨k, s, e0, e1, hk, hs⟩
theorem lds_of {a : Addr} {len : Nat} (hm : len ≤ maxLen) (h : ∀ i, i < len → ∃ (n : Int) (s : ByteArray), w.cell? (a.add (i * 2)) = some (.int .i64 n) ∧ w.cell? (a.add (i * 2 + 1)) = some (.string s) ∧ s.size ≤ maxLen) :
    ∃ xs : List Ld, xs.length = len ∧ LdsAt w (some a) xs ∧ ∀ x ∈ xs, x.2.length ≤ maxLen := by
  by_cases h0 : len = 0
  · subst h0
    exact ⟨[], rfl, LdsAt.nil _ _, by simp⟩
  obtain ⟨b, off, spot⟩ := a
  have hsp : spot = none := by
    obtain ⟨n, s, c0, _⟩ := h 0 (by omega)
    simpa [Addr.add] using World.cell?_spot c0
  subst hsp
  have h' : ∀ i, i < len → ∃ (n : Int) (s : ByteArray), w.cell? ⟨b, off + i * 2, none⟩ = some (.int .i64 n) ∧ w.cell? ⟨b, off + i * 2 + 1, none⟩ = some (.string s) ∧ s.size ≤ maxLen := by
    intro i hi
    obtain ⟨n, s, c0, c1, hs⟩ := h i hi
    rw [add_none] at c0 c1
    exact ⟨n, s, c0, by rw [Nat.add_assoc]; exact c1, hs⟩
  have hch : ∃ f : Nat → Ld, ∀ i, i < len → w.cell? ⟨b, off + i * 2, none⟩ = some (.int .i64 (f i).1) ∧ w.cell? ⟨b, off + i * 2 + 1, none⟩ = some (.string (bs (f i).2)) ∧ (f i).2.length ≤ maxLen := by
    refine ⟨fun i => if hi : i < len then ((h' i hi).choose, bl (h' i hi).choose_spec.choose) else nilLd, fun i hi => ?_⟩
    have q := (h' i hi).choose_spec.choose_spec
    simp only [dif_pos hi]
    refine ⟨q.1, q.2.1, ?_⟩
    show (bl _).length ≤ maxLen
    rw [← bl_size]; exact q.2.2
  obtain ⟨f, hf⟩ := hch
  have hg : ∀ i, i < len → ((List.range len).map f).getD i nilLd = f i := fun i hi => by simp [List.getD_eq_getElem?_getD, hi]
  refine ⟨(List.range len).map f, by simp, ⟨by simpa using hm, .inr ⟨b, off, rfl, ?_, fun i hi => ?_⟩⟩, fun x hx => ?_⟩
  · have := (hf 0 (by omega)).1
    exact World.block_lt_of_cell? w _ this
  · have hi' : i < len := by simpa using hi
    rw [hg i hi']
    exact ⟨(hf i hi').1, (hf i hi').2.1⟩
  · obtain ⟨i, hi, rfl⟩ := List.mem_map.1 hx
    exact (hf i (List.mem_range.1 hi)).2.2
theorem open_pairs {t e : TypeId} {f0 f1 : Field} (T : PairT P e f0 f1) (ht : P.underlying t = some (.slice e)) {fuel : Nat} {c : Value} {x : DataW H × List MemPlace} (h : DataW.trod enc P w base spare held fuel t [c] = some x) :
    ∃ (a : Option Addr) (cap : Nat) (xs : List Ld), c = .slice a xs.length cap ∧ LdsAt w a xs ∧ (a = none → cap = 0) ∧ ∀ x ∈ xs, x.2.length ≤ maxLen := by
  rcases open_slice ht h with ⟨h0, _⟩ | ⟨a, len, cap, m, n, D, Pl, hcs, _, hl, hm, hmm, _, hi⟩
  · simp at h0
    exact ⟨none, 0, [], by rw [h0]; rfl, LdsAt.nil _ _, fun _ => rfl, by simp⟩
  · simp at hcs
    have hlm : len ≤ m := by rw [hmm]; split <;> omega
    have hc : ∀ i, i < len → ∃ (n : Int) (s : ByteArray), w.cell? (a.add (i * 2)) = some (.int .i64 n) ∧ w.cell? (a.add (i * 2 + 1)) = some (.string s) ∧ s.size ≤ maxLen := by
      intro i hil
      obtain ⟨cs', hcc, hts⟩ := hi i (by omega)
      rw [T.ct] at hcc
      obtain ⟨_, hcl, hat⟩ := World.cells?_some hcc
      obtain ⟨u, v, rfl⟩ : ∃ u v, cs' = [u, v] := by
        match cs', hcl with
        | [u, v], _ => exact ⟨u, v, rfl⟩
      obtain ⟨k, s, rfl, rfl, _, hs⟩ := T.read hts
      have q0 := hat 0 (by omega)
      have q1 := hat 1 (by omega)
      refine ⟨k, s, by rw [add_add] at q0; simpa using q0, by rw [add_add] at q1; simpa using q1, hs⟩
    obtain ⟨xs, rfl, hx, hz⟩ := lds_of (by omega) hc
    exact ⟨some a, cap, xs, hcs, hx, (by simp), hz⟩
theorem open_desk {r : Reach} {b0 : Nat} {t tl ts e : TypeId} {g0 g1 f0 f1 f2 f3 : Field} (hs : P.underlying t = some (.struct #[g0, g1])) (o0 : g0.offset = 0) (o1 : g1.offset = 2) (e0 : g0.type = tl) (e1 : g1.type = ts) (T : PairT P tl f0 f1) (ht : P.underlying ts = some (.slice e)) (E : PairT P e f2 f3) (c1 : P.cellsOf ts = 1) (ct : P.cellsOf t = 3)
    {v : Value} {d : DataW H} {p : List MemPlace} (hv : Value.okWide P w r b0 t v) (h : DataW.Trod enc P w base spare held t v d p) :
    ∃ (n : Int) (s : ByteArray) (a : Option Addr) (cap : Nat) (xs : List Ld), v = .agg #[.int .i64 n, .string s, .slice a xs.length cap] ∧ s.size ≤ maxLen ∧ LdsAt w a xs ∧ (a = none → cap = 0) ∧ ∀ x ∈ xs, x.2.length ≤ maxLen := by
  obtain ⟨cs, rfl, hc⟩ := okWide_struct hs hv
  obtain ⟨u, x, y, rfl⟩ : ∃ u x y, cs = #[u, x, y] := by
    rw [ct] at hc
    match cs, hc with
    | ⟨[u, x, y]⟩, _ => exact ⟨u, x, y, rfl⟩
  obtain ⟨fuel, hf⟩ := h
  obtain ⟨zs, n, _, _, _, hl, hg⟩ := DataW.trod_struct hs hf
  have q0 := hg 0 g0 rfl
  have q1 := hg 1 g1 rfl
  rw [o0, e0, T.ct] at q0
  rw [o1, e1, c1] at q1
  obtain ⟨z0, z1, rfl⟩ : ∃ z0 z1, zs = [z0, z1] := by
    match zs, hl with
    | [z0, z1], _ => exact ⟨z0, z1, rfl⟩
  obtain ⟨k, s, rfl, rfl, _, hs'⟩ := T.read (x := z0) (by simpa [Value.cells] using q0)
  obtain ⟨a, cap, xs, rfl, hx, h0, hz⟩ := open_pairs E ht (x := z1) (by simpa [Value.cells] using q1)
  exact ⟨k, s, a, cap, xs, rfl, hs', hx, h0, hz⟩
end

end Go.Proofs.YtlnffpofbfigaaaGreatDoor

/-
  A deed that came in, opened to its cells. No function is named.
-/
namespace Go.Proofs.YtlnffpofbfigaaaGreatDoor
open Go.RowKit Go.ChangeShapes Go.WideShapes Go.Deep Go.Joins

end Go.Proofs.YtlnffpofbfigaaaGreatDoor
