/-
  Contracts of l1Common and of reduced: both find the greatest common divisor. For numbers from 0 on, up to 1000000 (the whole at least 1).
-/
import Derived.Test.YtoaknplfphoiaaaDoorBase
import Derived.RowKit3
import Derived.Below
import Derived.Deep.QuietTactic
import Derived.BigQuiet
import Derived.IntWalk
import Derived.LoopTactic
namespace Go.Proofs.YtoaknplfphoiaaaDoor
open Go.RowKit

theorem ret_int {k : IntKind} {a b : Int} (h : a = b) : Ending.returned (.int k a) = .returned (.int k b) := by rw [h]

theorem gcd_step (A B : Nat) : Nat.gcd B (A % B) = Nat.gcd A B := by rw [Nat.gcd_comm A B, Nat.gcd_rec B A, Nat.gcd_comm]

def ComRel (A B : Nat) (a b : Value) : Prop := ∃ x y : Nat, a = .int .i64 x ∧ b = .int .i64 y ∧ Nat.gcd x y = Nat.gcd A B ∧ x ≤ 1000000 ∧ y ≤ 1000000

theorem common_nat (A B : Nat) (hA : A ≤ 1000000) (hB : B ≤ 1000000) (w : World) :
    Calls Tryd.prog 43 #[.int .i64 A, .int .i64 B] w fun e w' => e = .returned (.int .i64 (Nat.gcd A B)) ∧ w = w' := by
  go_enter Tryd.func43, Tryd.ntmps43
  go_wp2
  go_loop [0, 1] (fun a b => ComRel A B a b) (fun _ b => (intOf b).toNat)
  case atStart => exact ⟨A, B, rfl, rfl, rfl, hA, hB⟩
  case round =>
    obtain ⟨x, y, rfl, rfl, hg, hx, hy⟩ := hrel
    have Hg := Lib.hid hg
    clear hg
    by_cases h0 : 0 < y
    · go_wp2
      go_round
      case rel => exact ⟨y, x % y, rfl, by simp, (gcd_step x y).trans Hg.out, hy, Nat.le_trans (Nat.mod_le _ _) hx⟩
      case measure =>
        have := Nat.mod_lt x h0
        simp [intOf]; omega
    · have hy0 : y = 0 := by omega
      have hgx : Nat.gcd A B = x := by rw [← Hg.out, hy0, Nat.gcd_zero_right]
      have Hx := Lib.hid hgx
      clear hgx hy0
      go_wp2
      go_ret
      exact ⟨ret_int (by rw [Hx.out]), rfl⟩

theorem common_any (a b : Int) (ha : 0 ≤ a ∧ a ≤ 1000000) (hb : 0 ≤ b ∧ b ≤ 1000000) (w : World) :
    Calls Tryd.prog 43 #[.int .i64 a, .int .i64 b] w fun e w' => e = .returned (.int .i64 (Nat.gcd a.toNat b.toNat)) ∧ w = w' := by
  obtain ⟨A, rfl⟩ := Int.eq_ofNat_of_zero_le ha.1
  obtain ⟨B, rfl⟩ := Int.eq_ofNat_of_zero_le hb.1
  exact common_nat A B (by omega) (by omega) w

def RedRel (p n : Nat) (w : World) (d r : Value) (wr : World) : Prop :=
  ∃ x y : Nat, r = .int .i64 x ∧ d = .int .i64 y ∧ Nat.gcd x y = Nat.gcd p n ∧ x ≤ 1000000 ∧ y ≤ 1000000 ∧ 1 ≤ y ∧ w.grownBy wr none

def RedPost (p n : Nat) (w : World) (e : Ending) (w' : World) : Prop :=
  e = .returned (.tuple #[.int .i64 ((p / Nat.gcd p n : Nat) : Int), .int .i64 ((n / Nat.gcd p n : Nat) : Int)]) ∧ w.grownBy w' none

theorem ret_two {a b c d : Int} (h : a = c) (k : b = d) : Ending.returned (.tuple #[.int .i64 a, .int .i64 b]) = .returned (.tuple #[.int .i64 c, .int .i64 d]) := by rw [h, k]

def fracP (n v : Int) : Int := ((v.toNat / Nat.gcd v.toNat n.toNat : Nat) : Int)
def fracW (n v : Int) : Int := ((n.toNat / Nat.gcd v.toNat n.toNat : Nat) : Int)

def FracPost (n v : Int) (w : World) (e : Ending) (w' : World) : Prop :=
  e = .returned (.agg #[.int .i64 (fracP n v), .int .i64 (fracW n v)]) ∧ w.grownBy w' none

end Go.Proofs.YtoaknplfphoiaaaDoor
