/-
  The contract of MovedTo. No condition.
-/
import Derived.Test.YtahlmdlnemmhpaaDoorMapF
import Derived.Test.YtahlmdlnemmhpaaDoorSMoved
namespace Go.Proofs.YtahlmdlnemmhpaaDoor
open Go.RowKit Go.Maps

theorem zeroI (w : World) : (zeroValue 3).run Tryd.prog w = .ok (.int .i64 0) w := by kernel_rfl

theorem lit_int {a b : Int} (h : (DataW.lit (.int .i64 a) : DataW Unit) = .lit (.int .i64 b)) : a = b := by
  simpa using h

theorem moved_any (n v m : Int) (w : World) :
    Calls Tryd.prog 52 #[.int .i64 n, .int .i64 v, .int .i64 m] w (MvPost n v m w) := by
  cases e1 : vokB n v
  · have hm : Hid (mvO n v m = none) := by unfold Hid mvO; simp [e1]
    go_enter Tryd.func52, Tryd.ntmps52
    go_wp2_with (go_at_call 46; refine (vok_any _ _ _).mono ?_; rintro e w' ⟨rfl, rfl⟩)
    go_ret2
    exact ⟨mv_none hm.out, grownBy_refl _ _⟩
  · cases e2 : inB m 1 6
    · have hm : Hid (mvO n v m = none) := by unfold Hid mvO; simp [e2]
      go_enter Tryd.func52, Tryd.ntmps52
      go_wp2_with (first | (go_at_call 46; refine (vok_any _ _ _).mono ?_; rintro e w' ⟨rfl, rfl⟩) | (go_at_call 49; refine (steps_any _ _).mono ?_; rintro e w' ⟨rfl, rfl⟩))
      go_ret2
      exact ⟨mv_none hm.out, grownBy_refl _ _⟩
    · have k1 := vokB_of e1
      have k2 := inB_of e2
      have hmo : mvO n v m = findN m.toNat n.toNat v.toNat (m.toNat + 1) := by
        unfold mvO; rw [e1, e2, find_is (by omega) (by omega) (by omega) (by omega) (by omega)]; rfl
      have b := frac_bounds n v (by omega) (by omega)
      have hw1 := wf_small (a := fracP n v) (by omega)
      have hw2 := wf_small (a := fracW n v) (by omega)
      obtain ⟨hh, hat⟩ := VF_find w m n v k2 (by omega) (by omega) (m.toNat + 1) (by omega)
      rw [← hmo] at hh hat
      have Hh := Lib.hid hh
      have Ha := Lib.hid hat
      clear hh hat hmo
      go_enter Tryd.func52, Tryd.ntmps52
      go_wp2_with (first
        | (go_at_call 46; refine (vok_any _ _ _).mono ?_; rintro e w' ⟨rfl, rfl⟩)
        | (go_at_call 49; refine (steps_any _ _).mono ?_; rintro e w' ⟨rfl, rfl⟩)
        | (go_at_call 59; refine (byFraction_any m k2 _).mono ?_; rintro e w1 ⟨rfl, hown, hg1⟩)
        | (go_at_call 51; refine (fraction_any n v (by omega) (by omega) _).mono ?_; rintro e w2 ⟨rfl, hg2⟩; have hown2 := hown.kept hg2 (by simp))
        | (at_lookup; refine wpList_lookup_own_ok_int _ rfl _ _ 58 rfl 45 3 .i64 lawF Tryd.underlying58 Tryd.underlying3 (zeroI _) _ _ _ rfl hown2 _ _ rfl (frKey_of hw1 hw2 w) ?_; intro c hc hwc; rw [Ha.out] at hc; have hcc := lit_int hc; rw [Hh.out]; have Hc := Lib.hid hcc; clear hc hcc))
      · go_ret2
        refine ⟨?_, grownBy_trans hg1 hg2⟩
        cases hmo : mvO n v m with
        | none => first | exact mv_none hmo | exact absurd ‹(mvO n v m).isNone = false› (by rw [hmo]; simp)
        | some x => first | exact mv_some hmo (by have h := Hc.out; rw [hmo] at h; simpa using h.symm) | exact absurd ‹(mvO n v m).isNone = true› (by rw [hmo]; simp)
      · go_ret2
        refine ⟨?_, grownBy_trans hg1 hg2⟩
        cases hmo : mvO n v m with
        | none => first | exact mv_none hmo | exact absurd ‹(mvO n v m).isNone = false› (by rw [hmo]; simp)
        | some x => first | exact mv_some hmo (by have h := Hc.out; rw [hmo] at h; simpa using h.symm) | exact absurd ‹(mvO n v m).isNone = true› (by rw [hmo]; simp)

end Go.Proofs.YtahlmdlnemmhpaaDoor
