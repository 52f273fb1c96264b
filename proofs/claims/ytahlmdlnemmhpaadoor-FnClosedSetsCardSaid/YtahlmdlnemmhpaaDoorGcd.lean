/-
  Contracts of l1Common and of reduced: both find the greatest common divisor. For numbers from 0 on, up to 1000000 (the whole at least 1).
-/
import Derived.Test.YtahlmdlnemmhpaaDoorBase
import Derived.RowKit3
import Derived.Below
import Derived.Deep.QuietTactic
import Derived.BigQuiet
import Derived.IntWalk
import Derived.LoopTactic
namespace Go.Proofs.YtahlmdlnemmhpaaDoor
open Go.RowKit

theorem ret_int {k : IntKind} {a b : Int} (h : a = b) : Ending.returned (.int k a) = .returned (.int k b) := by rw [h]

theorem gcd_step (A B : Nat) : Nat.gcd B (A % B) = Nat.gcd A B := by rw [Nat.gcd_comm A B, Nat.gcd_rec B A, Nat.gcd_comm]

def ComRel (A B : Nat) (a b : Value) : Prop := ∃ x y : Nat, a = .int .i64 x ∧ b = .int .i64 y ∧ Nat.gcd x y = Nat.gcd A B ∧ x ≤ 1000000 ∧ y ≤ 1000000

def RedRel (p n : Nat) (w : World) (d r : Value) (wr : World) : Prop :=
  ∃ x y : Nat, r = .int .i64 x ∧ d = .int .i64 y ∧ Nat.gcd x y = Nat.gcd p n ∧ x ≤ 1000000 ∧ y ≤ 1000000 ∧ 1 ≤ y ∧ w.grownBy wr none

def RedPost (p n : Nat) (w : World) (e : Ending) (w' : World) : Prop :=
  e = .returned (.tuple #[.int .i64 ((p / Nat.gcd p n : Nat) : Int), .int .i64 ((n / Nat.gcd p n : Nat) : Int)]) ∧ w.grownBy w' none

theorem ret_two {a b c d : Int} (h : a = c) (k : b = d) : Ending.returned (.tuple #[.int .i64 a, .int .i64 b]) = .returned (.tuple #[.int .i64 c, .int .i64 d]) := by rw [h, k]

theorem reduced_nat (p n : Nat) (hp : p ≤ 1000000) (hn : n ≤ 1000000) (hn1 : 1 ≤ n) (w : World) :
    Calls Tryd.prog 58 #[.int .i64 p, .int .i64 n] w (RedPost p n w) := by
  go_enter Tryd.func58, Tryd.ntmps58
  go_wp2
  go_loopw [6, 7] (fun d r wr => RedRel p n w d r wr) (fun _ r _ => (intOf r).toNat)
  case atStart => exact ⟨p, n, rfl, rfl, rfl, hp, hn, hn1, ⟨rfl, rfl, rfl, Nat.le_refl _, fun _ _ _ => rfl⟩⟩
  case round =>
    obtain ⟨x, y, rfl, rfl, hg, hx, hy, hy1, hgr⟩ := hrel
    have Hg := Lib.hid hg
    clear hg
    by_cases h0 : x = 0
    · subst h0
      have hgx : Nat.gcd p n = y := by rw [← Hg.out, Nat.gcd_zero_left]
      have Hx := Lib.hid hgx
      clear hgx
      have q1 : 0 ≤ (p : Int) / (y : Int) := Int.ediv_nonneg (by omega) (by omega)
      have q2 : (p : Int) / (y : Int) ≤ (p : Int) := Int.ediv_le_self _ (by omega)
      have q3 : 0 ≤ (n : Int) / (y : Int) := Int.ediv_nonneg (by omega) (by omega)
      have q4 : (n : Int) / (y : Int) ≤ (n : Int) := Int.ediv_le_self _ (by omega)
      go_wp2
      go_quiet (fail)
      go_wp2
      go_ret2
      exact ⟨ret_two (by rw [Hx.out]; simp) (by rw [Hx.out]; simp), ⟨hgr.os, hgr.tape, hgr.output, hgr.size, hgr.block⟩⟩
    · have hb : ((x : Int) != 0) = true := by simp; omega
      have hx1 : 1 ≤ x := by omega
      go_wp2
      go_quiet (fail)
      go_wp2
      go_roundw
      case rel => exact ⟨y % x, x, by simp, rfl, by rw [Nat.gcd_comm, gcd_step, Nat.gcd_comm]; exact Hg.out, Nat.le_trans (Nat.mod_le _ _) hy, hx, hx1, ⟨hgr.os, hgr.tape, hgr.output, hgr.size, hgr.block⟩⟩
      case measure =>
        have := Nat.mod_lt y hx1
        simp [intOf]; omega

def fracP (n v : Int) : Int := ((v.toNat / Nat.gcd v.toNat n.toNat : Nat) : Int)
def fracW (n v : Int) : Int := ((n.toNat / Nat.gcd v.toNat n.toNat : Nat) : Int)

def FracPost (n v : Int) (w : World) (e : Ending) (w' : World) : Prop :=
  e = .returned (.agg #[.int .i64 (fracP n v), .int .i64 (fracW n v)]) ∧ w.grownBy w' none

theorem fraction_any (n v : Int) (hn : 1 ≤ n ∧ n ≤ 1000000) (hv : 0 ≤ v ∧ v ≤ 1000000) (w : World) :
    Calls Tryd.prog 51 #[.int .i64 n, .int .i64 v] w (FracPost n v w) := by
  unfold FracPost fracP fracW
  obtain ⟨N, rfl⟩ := Int.eq_ofNat_of_zero_le (show 0 ≤ n by omega)
  obtain ⟨V, rfl⟩ := Int.eq_ofNat_of_zero_le hv.1
  simp only [Int.toNat_natCast]
  go_enter Tryd.func51, Tryd.ntmps51
  go_wp2_with fail
  refine (reduced_nat V N (by omega) (by omega) (by omega) _).mono ?_
  rintro e w1 ⟨rfl, hg⟩
  have hsz := hg.size
  simp at hsz
  have hb := hg.block w.heap.size (by simp) (by simp)
  rw [heap_alloc_new] at hb
  obtain ⟨c0, c1, f0, f1⟩ := cells_new hb
  clear hb
  go_wp2_with fail
  refine bodyPost_ret (v := .agg #[.int .i64 ((V / Nat.gcd V N : Nat) : Int), .int .i64 ((N / Nat.gcd V N : Nat) : Int)]) (by simp [results, Tryd.results51, go_sem, c0, c1]) rfl ⟨rfl, ?_⟩
  exact grownBy_own (grownBy_trans (World.grownBy_alloc _ _ _) hg) (grownBy_trans (grownBy_set _ _ _ _) (grownBy_set _ _ _ _))

end Go.Proofs.YtahlmdlnemmhpaaDoor
