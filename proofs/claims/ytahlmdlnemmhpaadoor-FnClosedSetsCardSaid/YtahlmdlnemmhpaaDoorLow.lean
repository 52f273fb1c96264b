/-
  Contracts of LowestOf, both. No condition.
-/
import Derived.Test.YtahlmdlnemmhpaaDoorGcd
namespace Go.Proofs.YtahlmdlnemmhpaaDoor
open Go.RowKit

def lowW (n v : Int) : Int := if vokB n v then fracW n v else -1
def lowP (n v : Int) : Int := if vokB n v then fracP n v else -1

def LowPost (n v : Int) (w : World) (e : Ending) (w' : World) : Prop :=
  e = .returned (.tuple #[.int .i64 (lowW n v), .int .i64 (lowP n v), .bool (vokB n v)]) ∧ w.grownBy w' none

theorem ret_low {n v a b : Int} {c : Bool} (h1 : a = lowW n v) (h2 : b = lowP n v) (h3 : c = vokB n v) :
    Ending.returned (.tuple #[.int .i64 a, .int .i64 b, .bool c]) = .returned (.tuple #[.int .i64 (lowW n v), .int .i64 (lowP n v), .bool (vokB n v)]) := by rw [h1, h2, h3]

theorem low_any (n v : Int) (w : World) :
    Calls Tryd.prog 25 #[.int .i64 n, .int .i64 v] w (LowPost n v w) := by
  cases e1 : vokB n v
  · have r1 : Hid (-1 = lowW n v) := by unfold Hid lowW; simp [e1]
    have r2 : Hid (-1 = lowP n v) := by unfold Hid lowP; simp [e1]
    have r3 : Hid (vokB n v = false) := e1
    go_enter Tryd.func25, Tryd.ntmps25
    go_wp2_with (go_at_call 46; refine (vok_any _ _ _).mono ?_; rintro e w' ⟨rfl, rfl⟩)
    go_ret3
    exact ⟨ret_low r1.out r2.out r3.out.symm, grownBy_refl _ _⟩
  · have r1 : Hid (fracW n v = lowW n v) := by unfold Hid lowW; simp [e1]
    have r2 : Hid (fracP n v = lowP n v) := by unfold Hid lowP; simp [e1]
    have r3 : Hid (vokB n v = true) := e1
    have k := vokB_of e1
    go_enter Tryd.func25, Tryd.ntmps25
    go_wp2_with (first | (go_at_call 46; refine (vok_any _ _ _).mono ?_; rintro e w' ⟨rfl, rfl⟩) | (go_at_call 51; refine (fraction_any n v (by omega) (by omega) _).mono ?_; rintro e w1 ⟨rfl, hg⟩))
    go_quiet (fail)
    go_wp2
    go_ret3
    exact ⟨ret_low r1.out r2.out r3.out.symm, grownBy_drewN (grownBy_trans hg (World.grownBy_alloc _ _ _)) _⟩

end Go.Proofs.YtahlmdlnemmhpaaDoor
