/-
  The draw of a row that may be said, or nearly.
-/
import Derived.Test.YtoaknplfphoiaaaDoorMC
import Derived.Test.YtoaknplfphoiaaaDoorRDraw
namespace Go.Proofs.YtoaknplfphoiaaaDoor
open Go.RowKit

theorem grownBy_some {w w' : World} (h : w.grownBy w' none) (r : Option Nat) : w.grownBy w' r := ⟨h.os, h.tape, h.output, h.size, fun i hi _ => h.block i hi (by simp)⟩

theorem saidL_len8 (n : Int) (l : List UInt8) : (saidL n l).length ≤ 8 := by
  cases hi : inB n 1 6
  · rw [saidL_o hi]; simp
  · cases ho : fOf l with
    | none => rw [saidL_n ho]; simp
    | some t =>
      obtain ⟨N, rfl, hN⟩ := nat_of hi
      rw [saidL_t ho hi, saidTo_len]
      omega

def DsPost (w : World) (e : Ending) (w' : World) : Prop :=
  ∃ (n : Int) (xs : List Int) (a : Option Addr) (cap : Nat), e = .returned (.tuple #[.int .i64 n, .slice a xs.length cap]) ∧ -1 ≤ n ∧ n ≤ 7 ∧ xs.length ≤ 8 ∧ IntsAt w' a xs ∧ w.grownBy w' none

def DsRel (r P : Nat) (n : Int) (w : World) (v i : Value) (wr : World) : Prop :=
  ∃ ys : List Int, (ys.length : Int) ≤ n + 1 ∧ i = .int .i64 ys.length ∧ wr.ownsRow w.heap.size 3 1 v ys.length (ys.map (Value.int .i64)) ∧ Rd wr r (P + 2 * ys.length) ∧ w.grownBy wr (some r)

set_option maxRecDepth 100000 in
set_option maxHeartbeats 4000000 in
theorem DrawSayableOk_any (a : Option Addr) (len cap : Nat) (zs : List Int) (w : World) (h : IsRow .u8 w a len cap zs) :
    Calls Tryd.prog 15 #[.slice a len cap] w (DsPost w) := by
  obtain ⟨i0, hi, hz0, hz1, hz2⟩ := info_parts infoInt
  go_enter Tryd.func15, Tryd.ntmps15
  go_wp2_with fail
  refine (open_draw a len cap zs _ h).mono ?_
  rintro e w1 ⟨rfl, hr1, hg1⟩
  clear h
  go_wp2_with fail
  refine (steps_draw _ _ _ _ hr1 (by omega) (by omega) (by omega)).mono ?_
  rintro e w2 ⟨n, rfl, n1, n2, hr2, hg2⟩
  go_wp2_with fail
  refine (pick_any _ _ _ _ hr2 (by omega)).mono ?_
  rintro e w3 ⟨k, rfl, hk0, hk1, hr3, hg3⟩
  have G1 := Lib.hid hg1
  have G3 := Lib.hid (grownBy_trans hg2 hg3)
  clear hg1 hg2 hg3 hr1 hr2
  by_cases h0 : k = 0
  · subst h0
    go_wp2_with fail
    refine (formed_draw _ _ _ _ hr3 (by omega) (by omega) (by omega)).mono ?_
    rintro e w4 ⟨s, rfl, s60, hr4, hg4⟩
    have hl := saidL_len8 n (bl s)
    go_wp2_with fail
    refine (ssaid_any n s _).mono ?_
    rintro e w5 ⟨a5, c5, rfl, o5, g5⟩
    have O5 := Lib.hid (o5.at (by unfold maxLen; omega))
    have G5 := Lib.hid (grownBy_own G1.out (grownBy_trans G3.out (grownBy_trans hg4 (grownBy_some g5 _))))
    clear o5 g5 hg4 hr4 hr3
    generalize saidL n (bl s) = xs at *
    go_wp2_with fail
    go_ret2
    exact ⟨n, xs, a5, c5, rfl, n1, n2, hl, O5.out, G5.out⟩
  · have hk : ((k : Int) == 0) = false := by simpa using h0
    clear h0
    have o1 := World.ownsRow_lit (e := 3) (size := 1) w3 #[] 0 (Nat.le_refl _) (by unfold maxLen; omega) rfl
    go_wp2_with fail
    clear hk
    generalize hrr' : w.heap.size = r at *
    have HR := Lib.hid hrr'
    clear hrr'
    have hlr := hr3.lt
    by_cases hneg : n < 0
    · go_loopw [6, 7] (fun v i wr => v = .slice (some ⟨w3.heap.size, 0, none⟩) 0 0 ∧ i = .int .i64 0 ∧ wr = w3.alloc (.cells #[] 3)) (fun _ _ _ => 0)
      case atStart => exact ⟨rfl, rfl, rfl⟩
      case round =>
        obtain ⟨rfl, rfl, rfl⟩ := hrel
        have G5 := Lib.hid (grownBy_trans G3.out (World.grownBy_alloc w3 (.cells #[] 3) (some r)))
        clear o1
        go_wp2_with fail
        go_ret2
        refine ⟨n, [], _, 0, rfl, n1, n2, by simp, ⟨by simp, .inl rfl⟩, ?_⟩
        have h1 := G5.out
        rw [← HR.out] at h1
        exact grownBy_own G1.out h1
    · go_loopw [6, 7] (fun v i wr => DsRel r 100 n w3 v i wr) (fun _ i _ => (n + 1 - intOf i).toNat)
      case atStart => exact ⟨[], by simp; omega, rfl, o1, (hr3.alloc _).mono (by omega), World.grownBy_alloc w3 _ (some r)⟩
      case round =>
        obtain ⟨ys, hyl, rfl, hown, hrr, hgr⟩ := hrel
        by_cases hlt : (ys.length : Int) ≤ n
        · by_cases hz : 0 < n
          case neg =>
            go_wp2_with fail
            refine (pick_any _ _ _ _ hrr (by omega)).mono ?_
            rintro e w4 ⟨x, rfl, x0, x1, hr4, hg4⟩
            replace hown := own_apartI hown hlr hg4
            replace hgr := grownBy_trans hgr hg4
            replace hrr := hr4
            clear hg4 hr4
            go_wp2_with (at_builtin; refine wpList_append_own _ rfl _ _ 25 rfl w3.heap.size 3 i0 (.int .i64 0) 1 8 Tryd.underlying25 hi hz0 hz1 hz2 rfl (by decide) _ _ _ rfl (World.ownsRow.alloc hown _) ⟨w4.heap.size, 0, none⟩ 1 1 [.int .i64 x] rfl rfl ?a1 ?a2 ?a3 ?a4 ?a5 ?_)
            case a2 => first | rfl | (intro u hu; simp at hu; subst hu; rfl)
            case a3 => unfold maxLen; omega
            case a4 => omega
            case a5 => have := hgr.size; simp; omega
            intro v' w9 hown' hgrow _
            have hA := World.ownsRow.alloc hown (.cells #[.int .i64 x] 3)
            have hr9 := Lib.hid ((hrr.alloc (.cells #[.int .i64 x] 3)).rowI hA hlr hgrow)
            have hg9 := Lib.hid (grownBy_rowI (grownBy_trans hgr (World.grownBy_alloc w4 (.cells #[.int .i64 x] 3) (some r))) hA (Nat.le_refl _) hgrow)
            have Ho : Hid (w9.ownsRow w3.heap.size 3 1 v' (ys ++ [x]).length ((ys ++ [x]).map (Value.int .i64))) := by
              unfold Hid
              simpa using hown'
            clear hown hown' hgrow hA hrr hgr
            go_wp2
            go_roundw
            case rel => exact ⟨ys ++ [x], by simp; omega, by simp, Ho.out, hr9.out.mono (by simp; omega), hg9.out⟩
            case measure => simp [intOf]; omega
          case pos =>
            obtain ⟨N, rfl⟩ := Int.eq_ofNat_of_zero_le (show 0 ≤ n by omega)
            have hN : 0 < N := by omega
            clear hneg
            have hG : 0 < Nat.gcd ys.length N := Nat.gcd_pos_of_pos_right _ hN
            have cg : ∀ w, Calls Tryd.prog 43 #[.int .i64 (ys.length : Nat), .int .i64 N] w fun e w' => e = .returned (.int .i64 ((Nat.gcd ys.length N : Nat) : Int)) ∧ w = w' := fun w => common_any ys.length N (by omega) (by omega) w
            generalize Nat.gcd ys.length N = G at *
            have hG0 : ¬ ((G : Int) = 0) := by omega
            have hmx : ¬ ((N : Int) < 0) := by omega
            go_wp2_with fail
            refine (pick_any _ _ _ _ hrr (by omega)).mono ?_
            rintro e w4 ⟨x, rfl, x0, x1, hr4, hg4⟩
            replace hown := own_apartI hown hlr hg4
            replace hgr := grownBy_trans hgr hg4
            clear hg4 hrr
            go_wp2_with fail
            refine (pick_any _ _ _ _ hr4 (by omega)).mono ?_
            rintro e w5 ⟨p, rfl, p0, p1, hr5, hg5⟩
            replace hown := own_apartI hown hlr hg5
            replace hgr := grownBy_trans hgr hg5
            have hrr := hr5
            clear hg5 hr4 hr5
            by_cases hp : 0 < p
            · have q0 := Int.emod_nonneg x hG0
              have q1 : x % (G : Int) ≤ x := by
                have := Int.emod_add_mul_ediv x (G : Int)
                have h2 : 0 ≤ (G : Int) * (x / (G : Int)) := Int.mul_nonneg (by omega) (Int.ediv_nonneg (by omega) (by omega))
                omega

              go_wp2_with (first | (go_at_call 43; refine (cg _).mono ?_; rintro e w' ⟨rfl, rfl⟩) | (at_builtin; refine wpList_append_own _ rfl _ _ 25 rfl w3.heap.size 3 i0 (.int .i64 0) 1 8 Tryd.underlying25 hi hz0 hz1 hz2 rfl (by decide) _ _ _ rfl (World.ownsRow.alloc hown _) ⟨w5.heap.size, 0, none⟩ 1 1 [.int .i64 (x - x % (G : Int))] rfl rfl ?b1 ?b2 ?b3 ?b4 ?b5 ?_))
              case b1 =>
                intro j u hj
                match j, hj with
                | 0, hj => simp at hj; subst hj; simp [Addr.add]
              case b2 => intro u hu; simp at hu; subst hu; rfl
              case b3 => unfold maxLen; omega
              case b4 => omega
              case b5 => have := hgr.size; simp; omega
              intro v' w9 hown' hgrow _
              have hA := World.ownsRow.alloc hown (.cells #[.int .i64 (x - x % (G : Int))] 3)
              have hr9 := Lib.hid ((hrr.alloc (.cells #[.int .i64 (x - x % (G : Int))] 3)).rowI hA hlr hgrow)
              have hg9 := Lib.hid (grownBy_rowI (grownBy_trans hgr (World.grownBy_alloc w5 (.cells #[.int .i64 (x - x % (G : Int))] 3) (some r))) hA (Nat.le_refl _) hgrow)
              have Ho : Hid (w9.ownsRow w3.heap.size 3 1 v' (ys ++ [(x - x % (G : Int))]).length ((ys ++ [(x - x % (G : Int))]).map (Value.int .i64))) := by
                unfold Hid
                simpa using hown'
              clear hown hown' hgrow hA hrr hgr
              go_wp2
              go_roundw
              case rel => exact ⟨ys ++ [(x - x % (G : Int))], by simp; omega, by simp, Ho.out, hr9.out.mono (by simp; omega), hg9.out⟩
              case measure => simp [intOf]; omega
            · obtain rfl : p = 0 := by omega
              clear cg
              go_wp2_with (at_builtin; refine wpList_append_own _ rfl _ _ 25 rfl w3.heap.size 3 i0 (.int .i64 0) 1 8 Tryd.underlying25 hi hz0 hz1 hz2 rfl (by decide) _ _ _ rfl (World.ownsRow.alloc hown _) ⟨w5.heap.size, 0, none⟩ 1 1 [.int .i64 x] rfl rfl ?c1 ?c2 ?c3 ?c4 ?c5 ?_)
              case c1 =>
                intro j u hj
                match j, hj with
                | 0, hj => simp at hj; subst hj; simp [Addr.add]
              case c2 => intro u hu; simp at hu; subst hu; rfl
              case c3 => unfold maxLen; omega
              case c4 => omega
              case c5 => have := hgr.size; simp; omega
              intro v' w9 hown' hgrow _
              have hA := World.ownsRow.alloc hown (.cells #[.int .i64 x] 3)
              have hr9 := Lib.hid ((hrr.alloc (.cells #[.int .i64 x] 3)).rowI hA hlr hgrow)
              have hg9 := Lib.hid (grownBy_rowI (grownBy_trans hgr (World.grownBy_alloc w5 (.cells #[.int .i64 x] 3) (some r))) hA (Nat.le_refl _) hgrow)
              have Ho : Hid (w9.ownsRow w3.heap.size 3 1 v' (ys ++ [x]).length ((ys ++ [x]).map (Value.int .i64))) := by
                unfold Hid
                simpa using hown'
              clear hown hown' hgrow hA hrr hgr
              go_wp2
              go_roundw
              case rel => exact ⟨ys ++ [x], by simp; omega, by simp, Ho.out, hr9.out.mono (by simp; omega), hg9.out⟩
              case measure => simp [intOf]; omega
        · obtain ⟨b, cb, rfl, hcap, hSt, hbl⟩ := own_ints (by unfold maxLen; omega) hown
          have HS := Lib.hid hSt
          have G5 := Lib.hid (grownBy_trans G3.out hgr)
          clear hSt hown hbl hgr
          go_wp2_with fail
          go_ret2
          refine ⟨n, ys, b, cb, rfl, n1, n2, by omega, HS.out, ?_⟩
          have h1 := G5.out
          rw [← HR.out] at h1
          exact grownBy_own G1.out h1

end Go.Proofs.YtoaknplfphoiaaaDoor
