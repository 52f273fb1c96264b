/-
  Contracts of MovedTo, both, and the walk of its exact law. No condition.
-/
import Derived.Test.YtkjhefmjpjpjiaaMapF
namespace Go.Proofs.Ytkjhefmjpjpjiaa
open Go.RowKit Go.Maps

def mvO (n v m : Int) : Option Nat := if vokB n v && inB m 1 6 then mvN n.toNat v.toNat m.toNat else none
def mvI (n v m : Int) : Int := match mvO n v m with | some x => (x : Int) | none => -1
def mvB (n v m : Int) : Bool := (mvO n v m).isSome

def MvPost (n v m : Int) (w : World) (e : Ending) (w' : World) : Prop :=
  e = .returned (.tuple #[.int .i64 (mvI n v m), .bool (mvB n v m)]) ∧ w.grownBy w' none

theorem mv_none {n v m : Int} (h : mvO n v m = none) : Ending.returned (.tuple #[.int .i64 (-1), .bool false]) = .returned (.tuple #[.int .i64 (mvI n v m), .bool (mvB n v m)]) := by
  unfold mvI mvB; rw [h]; rfl
theorem mv_some {n v m : Int} {x : Nat} {a : Int} (h : mvO n v m = some x) (ha : a = (x : Int)) : Ending.returned (.tuple #[.int .i64 a, .bool true]) = .returned (.tuple #[.int .i64 (mvI n v m), .bool (mvB n v m)]) := by
  unfold mvI mvB; rw [h, ha]; rfl

theorem zeroI (w : World) : (zeroValue 3).run Try.prog w = .ok (.int .i64 0) w := by kernel_rfl

theorem lit_int {a b : Int} (h : (DataW.lit (.int .i64 a) : DataW Unit) = .lit (.int .i64 b)) : a = b := by
  simpa using h

theorem mul_le (a b : Int) (ha : 0 ≤ a ∧ a ≤ 6) (hb : 0 ≤ b ∧ b ≤ 6) : 0 ≤ a * b ∧ a * b ≤ 36 := by
  constructor
  · exact Int.mul_nonneg ha.1 hb.1
  · have h := Int.mul_le_mul ha.2 hb.2 hb.1 (show (0 : Int) ≤ 6 by omega)
    omega

theorem moved_any (n v m : Int) (w : World) :
    Calls Try.prog 17 #[.int .i64 n, .int .i64 v, .int .i64 m] w (MvPost n v m w) := by
  cases e1 : vokB n v
  · have hm : Hid (mvO n v m = none) := by unfold Hid mvO; simp [e1]
    go_enter Try.func17, Try.ntmps17
    go_wp2_with (go_at_call 11; refine (vok_any _ _ _).mono ?_; rintro e w' ⟨rfl, rfl⟩)
    go_ret2
    exact ⟨mv_none hm.out, grownBy_refl _ _⟩
  · cases e2 : inB m 1 6
    · have hm : Hid (mvO n v m = none) := by unfold Hid mvO; simp [e2]
      go_enter Try.func17, Try.ntmps17
      go_wp2_with (first | (go_at_call 11; refine (vok_any _ _ _).mono ?_; rintro e w' ⟨rfl, rfl⟩) | (go_at_call 25; refine (steps_any _ _).mono ?_; rintro e w' ⟨rfl, rfl⟩))
      go_ret2
      exact ⟨mv_none hm.out, grownBy_refl _ _⟩
    · have k1 := vokB_of e1
      have k2 := inB_of e2
      have hmo : mvO n v m = findN m.toNat n.toNat v.toNat (m.toNat + 1) := by
        unfold mvO; rw [e1, e2, find_is (by omega) (by omega) (by omega) (by omega) (by omega)]; rfl
      have b := frac_bounds n v (by omega) (by omega)
      have hw1 := wf_small (a := fracP n v) (by omega)
      have hw2 := wf_small (a := fracW n v) (by omega)
      obtain ⟨hh, hat⟩ := VF_find w m n v k2 (by omega) (by omega) (m.toNat + 1) (by omega)
      rw [← hmo] at hh hat
      have Hh := Lib.hid hh
      have Ha := Lib.hid hat
      clear hh hat hmo
      go_enter Try.func17, Try.ntmps17
      go_wp2_with (first
        | (go_at_call 11; refine (vok_any _ _ _).mono ?_; rintro e w' ⟨rfl, rfl⟩)
        | (go_at_call 25; refine (steps_any _ _).mono ?_; rintro e w' ⟨rfl, rfl⟩)
        | (go_at_call 30; refine (byFraction_any m k2 _).mono ?_; rintro e w1 ⟨rfl, hown, hg1⟩)
        | (go_at_call 28; refine (fraction_any n v (by omega) (by omega) _).mono ?_; rintro e w2 ⟨rfl, hg2⟩; have hown2 := hown.kept hg2 (by simp))
        | (at_lookup; refine wpList_lookup_own_ok_int _ rfl _ _ 45 rfl 42 3 .i64 lawF Try.underlying45 Try.underlying3 (zeroI _) _ _ _ rfl hown2 _ _ rfl (frKey_of hw1 hw2 w) ?_; intro c hc hwc; rw [Ha.out] at hc; have hcc := lit_int hc; rw [Hh.out]; have Hc := Lib.hid hcc; clear hc hcc))
      · go_ret2
        refine ⟨?_, grownBy_trans hg1 hg2⟩
        cases hmo : mvO n v m with
        | none => first | exact mv_none hmo | exact absurd ‹(mvO n v m).isNone = false› (by rw [hmo]; simp)
        | some x => first | exact mv_some hmo (by have h := Hc.out; rw [hmo] at h; simpa using h.symm) | exact absurd ‹(mvO n v m).isNone = true› (by rw [hmo]; simp)
      · go_ret2
        refine ⟨?_, grownBy_trans hg1 hg2⟩
        cases hmo : mvO n v m with
        | none => first | exact mv_none hmo | exact absurd ‹(mvO n v m).isNone = false› (by rw [hmo]; simp)
        | some x => first | exact mv_some hmo (by have h := Hc.out; rw [hmo] at h; simpa using h.symm) | exact absurd ‹(mvO n v m).isNone = true› (by rw [hmo]; simp)

theorem smoved_any (n v m : Int) (w : World) :
    Calls Try.prog 20 #[.int .i64 n, .int .i64 v, .int .i64 m] w (MvPost n v m w) := by
  cases e1 : vokB n v
  · have hm : Hid (mvO n v m = none) := by unfold Hid mvO; simp [e1]
    go_enter Try.func20, Try.ntmps20
    go_wp2_with (go_at_call 12; refine (svok_any _ _ _).mono ?_; rintro e w' ⟨rfl, rfl⟩)
    go_ret2
    exact ⟨mv_none hm.out, grownBy_refl _ _⟩
  · cases e2 : inB m 1 6
    · have hm : Hid (mvO n v m = none) := by unfold Hid mvO; simp [e2]
      go_enter Try.func20, Try.ntmps20
      go_wp2_with (first | (go_at_call 12; refine (svok_any _ _ _).mono ?_; rintro e w' ⟨rfl, rfl⟩) | (go_at_call 26; refine (in_any _ _ _ _).mono ?_; rintro e w' ⟨rfl, rfl⟩))
      go_ret2
      exact ⟨mv_none hm.out, grownBy_refl _ _⟩
    · have k1 := vokB_of e1
      have k2 := inB_of e2
      have hmo : mvO n v m = mvN n.toNat v.toNat m.toNat := by unfold mvO; rw [e1, e2]; rfl
      have b1 := mul_le v m (by omega) (by omega)
      obtain ⟨N, rfl⟩ := Int.eq_ofNat_of_zero_le (show 0 ≤ n by omega)
      obtain ⟨V, rfl⟩ := Int.eq_ofNat_of_zero_le (show 0 ≤ v by omega)
      obtain ⟨M, rfl⟩ := Int.eq_ofNat_of_zero_le (show 0 ≤ m by omega)
      simp only [Int.toNat_natCast, mvN] at hmo
      by_cases h0 : V * M % N = 0
      · rw [if_pos h0] at hmo
        have Hm := Lib.hid hmo
        clear hmo
        have hz : ((V : Int) * (M : Int) % (N : Int) != 0) = false := by rw [← Int.natCast_mul, ← Int.natCast_emod, h0]; rfl
        have hq : Hid ((V : Int) * (M : Int) / (N : Int) = ((V * M / N : Nat) : Int)) := by unfold Hid; simp
        have q1 : 0 ≤ (V : Int) * (M : Int) / (N : Int) := Int.ediv_nonneg (by omega) (by omega)
        have q2 : (V : Int) * (M : Int) / (N : Int) ≤ (V : Int) * (M : Int) := Int.ediv_le_self _ (by omega)
        clear h0
        go_enter Try.func20, Try.ntmps20
        go_wp2_with (first | (go_at_call 12; refine (svok_any _ _ _).mono ?_; rintro e w' ⟨rfl, rfl⟩) | (go_at_call 26; refine (in_any _ _ _ _).mono ?_; rintro e w' ⟨rfl, rfl⟩))
        go_ret2
        exact ⟨mv_some Hm.out hq.out, grownBy_refl _ _⟩
      · rw [if_neg h0] at hmo
        have Hm := Lib.hid hmo
        clear hmo
        have hz : ((V : Int) * (M : Int) % (N : Int) != 0) = true := by
          rw [← Int.natCast_mul, ← Int.natCast_emod]
          simp only [bne_iff_ne, ne_eq]
          omega
        clear h0
        go_enter Try.func20, Try.ntmps20
        go_wp2_with (first | (go_at_call 12; refine (svok_any _ _ _).mono ?_; rintro e w' ⟨rfl, rfl⟩) | (go_at_call 26; refine (in_any _ _ _ _).mono ?_; rintro e w' ⟨rfl, rfl⟩))
        go_ret2
        exact ⟨mv_none Hm.out, grownBy_refl _ _⟩

theorem FnExactMovedTo_walk (a0 a1 a2 : Int) (_w0 : (Lit.int .i64 a0).wf = true) (_w1 : (Lit.int .i64 a1).wf = true) (_w2 : (Lit.int .i64 a2).wf = true) (w : World) :
    Calls Try.prog 9 #[.int .i64 a0, .int .i64 a1, .int .i64 a2] w fun e w' => e = .returned (.bool true) ∧ Below w.heap.size w w' := by
  go_enter Try.func9, Try.ntmps9
  go_wp2_with (first | (go_at_call 17; refine (moved_any _ _ _ _).mono ?_; rintro e w1 ⟨rfl, hg1⟩) | (go_at_call 20; refine (smoved_any _ _ _ _).mono ?_; rintro e w2 ⟨rfl, hg2⟩))
  go_ret
  exact ⟨rfl, below_of (grownBy_trans hg2 hg1)⟩

end Go.Proofs.Ytkjhefmjpjpjiaa
