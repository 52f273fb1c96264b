/-
  Joined out of the texts Gcd, Low, Text, VText, ASpec, Far, Ints, RSpec, RSpecM, Row, Set, SetI, Say, MSpec, DVa, DTd, DVb, Strs, DVc, FLet, FAt, ASet, Agn, ALow, AAlw, AChain, RC, RI, RI2, MSpec2, ZImp, MC, RDraw, CpI, NS: what each holds is told at its head.
-/
import Derived.Test.YtlnffpofbfigaaaGreatDoorBase
import Derived.RowKit3
import Derived.Below
import Derived.Deep.QuietTactic
import Derived.BigQuiet
import Derived.IntWalk
import Derived.LoopTactic
import Derived.Laws.IdiomStrings
import Derived.Test.YtlnffpofbfigaaaGreatDoorFSpecV
import Derived.Test.YtlnffpofbfigaaaGreatDoorAlwF
import Derived.Deep.RegionHeld3
import Derived.Test.YtlnffpofbfigaaaGreatDoorFVal
import Derived.Test.YtlnffpofbfigaaaGreatDoorAlw
import Derived.OwnWalk
import Derived.Laws.OwnMore
import Derived.Test.YtlnffpofbfigaaaGreatDoorSign
import Derived.Test.YtlnffpofbfigaaaGreatDoorFCell
import Derived.Lib.TrailingZeros
import Derived.Test.YtlnffpofbfigaaaGreatDoorDeskN
import Derived.Test.YtlnffpofbfigaaaGreatDoorPrem
import Derived.Test.YtlnffpofbfigaaaGreatDoorDSpec
import Derived.Test.YtlnffpofbfigaaaGreatDoorDTb
import Derived.Test.YtlnffpofbfigaaaGreatDoorSfd
import Derived.Lib.CutLaws
import Derived.Test.YtlnffpofbfigaaaGreatDoorDTc
import Derived.Test.YtlnffpofbfigaaaGreatDoorDRow
import Derived.SliceStrings
import Derived.Laws.EntriesVeiled
import Derived.RangeFuncNested
import Derived.RangeFuncBound
import Derived.RangeFuncCalls
import Derived.RangeFuncLeaves
import Derived.Shelf.Abstract
import Derived.Shelf.RegionOpen
import Derived.WalkKit
import Derived.OwnWalkIn
import Derived.TacticsInMore
import Derived.LoopNIn
import Derived.LoopIn
import Derived.WalkMore
import Derived.Test.YtlnffpofbfigaaaGreatDoorSignI
import Derived.Shelf.Spec.TrailingZeros
import Derived.Test.YtlnffpofbfigaaaGreatDoorSDraw
import Derived.Test.YtlnffpofbfigaaaGreatDoorADraw

/-
  Contracts of l1Common and of reduced: both find the greatest common divisor. For numbers from 0 on, up to 1000000 (the whole at least 1).
-/
namespace Go.Proofs.YtlnffpofbfigaaaGreatDoor
open Go.RowKit

theorem ret_int {k : IntKind} {a b : Int} (h : a = b) : Ending.returned (.int k a) = .returned (.int k b) := by rw [h]

theorem gcd_step (A B : Nat) : Nat.gcd B (A % B) = Nat.gcd A B := by rw [Nat.gcd_comm A B, Nat.gcd_rec B A, Nat.gcd_comm]

def ComRel (A B : Nat) (a b : Value) : Prop := ∃ x y : Nat, a = .int .i64 x ∧ b = .int .i64 y ∧ Nat.gcd x y = Nat.gcd A B ∧ x ≤ 1000000 ∧ y ≤ 1000000

theorem common_nat (A B : Nat) (hA : A ≤ 1000000) (hB : B ≤ 1000000) (w : World) :
    Calls Tryz.prog 143 #[.int .i64 A, .int .i64 B] w fun e w' => e = .returned (.int .i64 (Nat.gcd A B)) ∧ w = w' := by
  go_enter Tryz.func143, Tryz.ntmps143
  go_wp2
  go_loop [0, 1] (fun a b => ComRel A B a b) (fun _ b => (intOf b).toNat)
  case atStart => exact ⟨A, B, rfl, rfl, rfl, hA, hB⟩
  case round =>
    obtain ⟨x, y, rfl, rfl, hg, hx, hy⟩ := hrel
    have Hg := Lib.hid hg
    clear hg
    by_cases h0 : 0 < y
    · go_wp2
      go_round
      case rel => exact ⟨y, x % y, rfl, by simp, (gcd_step x y).trans Hg.out, hy, Nat.le_trans (Nat.mod_le _ _) hx⟩
      case measure =>
        have := Nat.mod_lt x h0
        simp [intOf]; omega
    · have hy0 : y = 0 := by omega
      have hgx : Nat.gcd A B = x := by rw [← Hg.out, hy0, Nat.gcd_zero_right]
      have Hx := Lib.hid hgx
      clear hgx hy0
      go_wp2
      go_ret
      exact ⟨ret_int (by rw [Hx.out]), rfl⟩

theorem common_any (a b : Int) (ha : 0 ≤ a ∧ a ≤ 1000000) (hb : 0 ≤ b ∧ b ≤ 1000000) (w : World) :
    Calls Tryz.prog 143 #[.int .i64 a, .int .i64 b] w fun e w' => e = .returned (.int .i64 (Nat.gcd a.toNat b.toNat)) ∧ w = w' := by
  obtain ⟨A, rfl⟩ := Int.eq_ofNat_of_zero_le ha.1
  obtain ⟨B, rfl⟩ := Int.eq_ofNat_of_zero_le hb.1
  exact common_nat A B (by omega) (by omega) w

def RedRel (p n : Nat) (w : World) (d r : Value) (wr : World) : Prop :=
  ∃ x y : Nat, r = .int .i64 x ∧ d = .int .i64 y ∧ Nat.gcd x y = Nat.gcd p n ∧ x ≤ 1000000 ∧ y ≤ 1000000 ∧ 1 ≤ y ∧ w.grownBy wr none

def RedPost (p n : Nat) (w : World) (e : Ending) (w' : World) : Prop :=
  e = .returned (.tuple #[.int .i64 ((p / Nat.gcd p n : Nat) : Int), .int .i64 ((n / Nat.gcd p n : Nat) : Int)]) ∧ w.grownBy w' none

theorem ret_two {a b c d : Int} (h : a = c) (k : b = d) : Ending.returned (.tuple #[.int .i64 a, .int .i64 b]) = .returned (.tuple #[.int .i64 c, .int .i64 d]) := by rw [h, k]

theorem reduced_nat (p n : Nat) (hp : p ≤ 1000000) (hn : n ≤ 1000000) (hn1 : 1 ≤ n) (w : World) :
    Calls Tryz.prog 211 #[.int .i64 p, .int .i64 n] w (RedPost p n w) := by
  go_enter Tryz.func211, Tryz.ntmps211
  go_wp2
  go_loopw [6, 7] (fun d r wr => RedRel p n w d r wr) (fun _ r _ => (intOf r).toNat)
  case atStart => exact ⟨p, n, rfl, rfl, rfl, hp, hn, hn1, ⟨rfl, rfl, rfl, Nat.le_refl _, fun _ _ _ => rfl⟩⟩
  case round =>
    obtain ⟨x, y, rfl, rfl, hg, hx, hy, hy1, hgr⟩ := hrel
    have Hg := Lib.hid hg
    clear hg
    by_cases h0 : x = 0
    · subst h0
      have hgx : Nat.gcd p n = y := by rw [← Hg.out, Nat.gcd_zero_left]
      have Hx := Lib.hid hgx
      clear hgx
      have q1 : 0 ≤ (p : Int) / (y : Int) := Int.ediv_nonneg (by omega) (by omega)
      have q2 : (p : Int) / (y : Int) ≤ (p : Int) := Int.ediv_le_self _ (by omega)
      have q3 : 0 ≤ (n : Int) / (y : Int) := Int.ediv_nonneg (by omega) (by omega)
      have q4 : (n : Int) / (y : Int) ≤ (n : Int) := Int.ediv_le_self _ (by omega)
      go_wp2
      go_quiet (fail)
      go_wp2
      go_ret2
      exact ⟨ret_two (by rw [Hx.out]; simp) (by rw [Hx.out]; simp), ⟨hgr.os, hgr.tape, hgr.output, hgr.size, hgr.block⟩⟩
    · have hb : ((x : Int) != 0) = true := by simp; omega
      have hx1 : 1 ≤ x := by omega
      go_wp2
      go_quiet (fail)
      go_wp2
      go_roundw
      case rel => exact ⟨y % x, x, by simp, rfl, by rw [Nat.gcd_comm, gcd_step, Nat.gcd_comm]; exact Hg.out, Nat.le_trans (Nat.mod_le _ _) hy, hx, hx1, ⟨hgr.os, hgr.tape, hgr.output, hgr.size, hgr.block⟩⟩
      case measure =>
        have := Nat.mod_lt y hx1
        simp [intOf]; omega

def fracP (n v : Int) : Int := ((v.toNat / Nat.gcd v.toNat n.toNat : Nat) : Int)
def fracW (n v : Int) : Int := ((n.toNat / Nat.gcd v.toNat n.toNat : Nat) : Int)

def FracPost (n v : Int) (w : World) (e : Ending) (w' : World) : Prop :=
  e = .returned (.agg #[.int .i64 (fracP n v), .int .i64 (fracW n v)]) ∧ w.grownBy w' none

theorem fraction_any (n v : Int) (hn : 1 ≤ n ∧ n ≤ 1000000) (hv : 0 ≤ v ∧ v ≤ 1000000) (w : World) :
    Calls Tryz.prog 194 #[.int .i64 n, .int .i64 v] w (FracPost n v w) := by
  unfold FracPost fracP fracW
  obtain ⟨N, rfl⟩ := Int.eq_ofNat_of_zero_le (show 0 ≤ n by omega)
  obtain ⟨V, rfl⟩ := Int.eq_ofNat_of_zero_le hv.1
  simp only [Int.toNat_natCast]
  go_enter Tryz.func194, Tryz.ntmps194
  go_wp2_with fail
  refine (reduced_nat V N (by omega) (by omega) (by omega) _).mono ?_
  rintro e w1 ⟨rfl, hg⟩
  have hsz := hg.size
  simp at hsz
  have hb := hg.block w.heap.size (by simp) (by simp)
  rw [heap_alloc_new] at hb
  obtain ⟨c0, c1, f0, f1⟩ := cells_new hb
  clear hb
  go_wp2_with fail
  refine bodyPost_ret (v := .agg #[.int .i64 ((V / Nat.gcd V N : Nat) : Int), .int .i64 ((N / Nat.gcd V N : Nat) : Int)]) (by simp [results, Tryz.results194, go_sem, c0, c1]) rfl ⟨rfl, ?_⟩
  exact grownBy_own (grownBy_trans (World.grownBy_alloc _ _ _) hg) (grownBy_trans (grownBy_set _ _ _ _) (grownBy_set _ _ _ _))

end Go.Proofs.YtlnffpofbfigaaaGreatDoor

/-
  Contracts of LowestOf, both. No condition.
-/
namespace Go.Proofs.YtlnffpofbfigaaaGreatDoor
open Go.RowKit

def lowW (n v : Int) : Int := if vokB n v then fracW n v else -1
def lowP (n v : Int) : Int := if vokB n v then fracP n v else -1

def LowPost (n v : Int) (w : World) (e : Ending) (w' : World) : Prop :=
  e = .returned (.tuple #[.int .i64 (lowW n v), .int .i64 (lowP n v), .bool (vokB n v)]) ∧ w.grownBy w' none

theorem ret_low {n v a b : Int} {c : Bool} (h1 : a = lowW n v) (h2 : b = lowP n v) (h3 : c = vokB n v) :
    Ending.returned (.tuple #[.int .i64 a, .int .i64 b, .bool c]) = .returned (.tuple #[.int .i64 (lowW n v), .int .i64 (lowP n v), .bool (vokB n v)]) := by rw [h1, h2, h3]

theorem low_any (n v : Int) (w : World) :
    Calls Tryz.prog 161 #[.int .i64 n, .int .i64 v] w (LowPost n v w) := by
  cases e1 : vokB n v
  · have r1 : Hid (-1 = lowW n v) := by unfold Hid lowW; simp [e1]
    have r2 : Hid (-1 = lowP n v) := by unfold Hid lowP; simp [e1]
    have r3 : Hid (vokB n v = false) := e1
    go_enter Tryz.func161, Tryz.ntmps161
    go_wp2_with (go_at_call 58; refine (vok_any _ _ _).mono ?_; rintro e w' ⟨rfl, rfl⟩)
    go_ret3
    exact ⟨ret_low r1.out r2.out r3.out.symm, grownBy_refl _ _⟩
  · have r1 : Hid (fracW n v = lowW n v) := by unfold Hid lowW; simp [e1]
    have r2 : Hid (fracP n v = lowP n v) := by unfold Hid lowP; simp [e1]
    have r3 : Hid (vokB n v = true) := e1
    have k := vokB_of e1
    go_enter Tryz.func161, Tryz.ntmps161
    go_wp2_with (first | (go_at_call 58; refine (vok_any _ _ _).mono ?_; rintro e w' ⟨rfl, rfl⟩) | (go_at_call 194; refine (fraction_any n v (by omega) (by omega) _).mono ?_; rintro e w1 ⟨rfl, hg⟩))
    go_quiet (fail)
    go_wp2
    go_ret3
    exact ⟨ret_low r1.out r2.out r3.out.symm, grownBy_drewN (grownBy_trans hg (World.grownBy_alloc _ _ _)) _⟩

theorem slow_any (n v : Int) (w : World) :
    Calls Tryz.prog 110 #[.int .i64 n, .int .i64 v] w (LowPost n v w) := by
  cases e1 : vokB n v
  · have r1 : Hid (-1 = lowW n v) := by unfold Hid lowW; simp [e1]
    have r2 : Hid (-1 = lowP n v) := by unfold Hid lowP; simp [e1]
    have r3 : Hid (vokB n v = false) := e1
    go_enter Tryz.func110, Tryz.ntmps110
    go_wp2_with (go_at_call 116; refine (svok_any _ _ _).mono ?_; rintro e w' ⟨rfl, rfl⟩)
    go_ret3
    exact ⟨ret_low r1.out r2.out r3.out.symm, grownBy_refl _ _⟩
  · have k := vokB_of e1
    have r1 : Hid (fracW n v = lowW n v) := by unfold Hid lowW; simp [e1]
    have r2 : Hid (fracP n v = lowP n v) := by unfold Hid lowP; simp [e1]
    have r3 : Hid (vokB n v = true) := e1
    obtain ⟨N, rfl⟩ := Int.eq_ofNat_of_zero_le (show 0 ≤ n by omega)
    obtain ⟨V, rfl⟩ := Int.eq_ofNat_of_zero_le (show 0 ≤ v by omega)
    have g1 : 1 ≤ Nat.gcd V N := Nat.gcd_pos_of_pos_right _ (by omega)
    have g2 : Nat.gcd V N ≤ N := Nat.gcd_le_right _ (by omega)
    obtain ⟨g, hg⟩ : ∃ g, g = Nat.gcd V N := ⟨_, rfl⟩
    have Hg := Lib.hid hg
    have s1 : Hid ((N : Int) / (g : Int) = fracW N V) := by rw [hg]; unfold Hid fracW; simp
    have s2 : Hid ((V : Int) / (g : Int) = fracP N V) := by rw [hg]; unfold Hid fracP; simp
    rw [← hg] at g1 g2
    clear hg
    have q1 : 0 ≤ (V : Int) / (g : Int) := Int.ediv_nonneg (by omega) (by omega)
    have q2 : (V : Int) / (g : Int) ≤ (V : Int) := Int.ediv_le_self _ (by omega)
    have q3 : 0 ≤ (N : Int) / (g : Int) := Int.ediv_nonneg (by omega) (by omega)
    have q4 : (N : Int) / (g : Int) ≤ (N : Int) := Int.ediv_le_self _ (by omega)
    go_enter Tryz.func110, Tryz.ntmps110
    go_wp2_with (first | (go_at_call 116; refine (svok_any _ _ _).mono ?_; rintro e w' ⟨rfl, rfl⟩) | (go_at_call 143; refine (common_any V N (by omega) (by omega) _).mono ?_; rintro e w1 ⟨rfl, rfl⟩; simp only [Int.toNat_natCast]; rw [← Hg.out]))
    go_quiet (fail)
    go_wp2
    go_ret3
    exact ⟨ret_low (s1.out.trans r1.out) (s2.out.trans r2.out) r3.out.symm, grownBy_drewN (grownBy_refl _ _) _⟩

end Go.Proofs.YtlnffpofbfigaaaGreatDoor

/-
  Contracts of strconv.Itoa and l1Number at the numbers 0 to 6, and of ValueText, both. No other condition.
-/
namespace Go.Proofs.YtlnffpofbfigaaaGreatDoor
open Go.RowKit

def digS (k : Int) : ByteArray := ⟨#[UInt8.ofNat (48 + k.toNat)]⟩

theorem ret_str {a b : ByteArray} (h : a = b) : Ending.returned (.string a) = .returned (.string b) := by rw [h]

theorem seven {k : Int} (h : 0 ≤ k ∧ k ≤ 6) : k = 0 ∨ k = 1 ∨ k = 2 ∨ k = 3 ∨ k = 4 ∨ k = 5 ∨ k = 6 := by omega

theorem small_any (k : Int) (h : 0 ≤ k ∧ k ≤ 6) (w : World) :
    Calls Tryz.prog 166 #[.int .i64 k] w fun e w' => e = .returned (.string (digS k)) ∧ w = w' := by
  rcases seven h with rfl | rfl | rfl | rfl | rfl | rfl | rfl
  all_goals
    clear h
    go_enter Tryz.func166, Tryz.ntmps166
    go_wp2
    go_ret
    exact ⟨ret_str (by decide), rfl⟩

theorem itoa_any (k : Int) (h : 0 ≤ k ∧ k ≤ 6) (w : World) :
    Calls Tryz.prog 54 #[.int .i64 k] w fun e w' => e = .returned (.string (digS k)) ∧ w = w' := by
  go_enter Tryz.func54, Tryz.ntmps54
  go_wp2_with (first | (go_at_call 166; refine (small_any k h _).mono ?_; rintro e w' ⟨rfl, rfl⟩) | go_in)
  go_ret
  exact ⟨rfl, rfl⟩

def StrPost (s : ByteArray) (w : World) (e : Ending) (w' : World) : Prop := e = .returned (.string s) ∧ w.grownBy w' none

theorem one_byte (w : World) (c : UInt8) (n : Int) (hn : n = (c.toNat : Int)) :
    (convert 22 9 (.slice (some ⟨w.heap.size, 0, none⟩) 1 1)).run Tryz.prog (w.alloc (.cells #[.int .u8 n] 5)) = .ok (.string ⟨#[c]⟩) (w.alloc (.cells #[.int .u8 n] 5)) := by
  refine run_convert_bytes_back (P := Tryz.prog) _ 22 9 5 ⟨w.heap.size, 0, none⟩ 1 [c] Tryz.underlying22 Tryz.underlying5 Tryz.underlying9 (fun j hj => ?_)
  obtain rfl : j = 0 := by simpa using hj
  rw [add_none, World.cell?_alloc_mark, hn]
  rfl

theorem number_any (k : Int) (h : 0 ≤ k ∧ k ≤ 6) (w : World) :
    Calls Tryz.prog 62 #[.int .i64 k] w (StrPost (digS k) w) := by
  rcases seven h with rfl | rfl | rfl | rfl | rfl | rfl | rfl
  all_goals
    clear h
    have h48 := one_byte w 48 48 rfl
    have h49 := one_byte w 49 49 rfl
    have h50 := one_byte w 50 50 rfl
    have h51 := one_byte w 51 51 rfl
    have h52 := one_byte w 52 52 rfl
    have h53 := one_byte w 53 53 rfl
    have h54 := one_byte w 54 54 rfl
    go_enter Tryz.func62, Tryz.ntmps62
    go_wp2_with fail
    go_ret
    exact ⟨ret_str (by decide), World.grownBy_alloc _ _ _⟩

end Go.Proofs.YtlnffpofbfigaaaGreatDoor

/-
  Contracts of ValueText, both. No condition.
-/
namespace Go.Proofs.YtlnffpofbfigaaaGreatDoor
open Go.RowKit

def vtextOf (p q : Int) : ByteArray := if q = 1 then digS p else digS p ++ ⟨#[47]⟩ ++ digS q
def vtext (n v : Int) : ByteArray := if vokB n v then vtextOf (lowP n v) (lowW n v) else ⟨#[]⟩

theorem digS_size (k : Int) : (digS k).size = 1 := rfl

theorem lowSmall {n v : Int} (h : vokB n v = true) : 0 ≤ lowP n v ∧ lowP n v ≤ 6 ∧ 0 ≤ lowW n v ∧ lowW n v ≤ 6 := by
  have k := vokB_of h
  unfold lowP lowW fracP fracW
  rw [h]
  have a := Nat.div_le_self v.toNat (Nat.gcd v.toNat n.toNat)
  have b := Nat.div_le_self n.toNat (Nat.gcd v.toNat n.toNat)
  generalize v.toNat / Nat.gcd v.toNat n.toNat = x at *
  generalize n.toNat / Nat.gcd v.toNat n.toNat = y at *
  simp only [if_true]
  omega

theorem low_none {n v : Int} (h : vokB n v = false) : lowW n v = -1 ∧ lowP n v = -1 := by unfold lowW lowP; simp [h]

theorem text_any (n v : Int) (w : World) :
    Calls Tryz.prog 133 #[.int .i64 n, .int .i64 v] w (StrPost (vtext n v) w) := by
  cases e1 : vokB n v
  · have ht : Hid (⟨#[]⟩ = vtext n v) := by unfold Hid vtext; simp [e1]
    go_enter Tryz.func133, Tryz.ntmps133
    go_wp2_with (go_at_call 161; refine (low_any _ _ _).mono ?_; rintro e w1 ⟨rfl, hg1⟩)
    go_ret
    exact ⟨ret_str ht.out, hg1⟩
  · obtain ⟨p0, p1, q0, q1⟩ := lowSmall e1
    have ht : Hid (vtextOf (lowP n v) (lowW n v) = vtext n v) := by unfold Hid vtext; simp [e1]
    have hlow := low_any n v
    unfold LowPost at hlow
    generalize lowP n v = p at *
    generalize lowW n v = q at *
    have Hlow := Lib.hid hlow
    clear hlow
    by_cases hq : q = 1
    · subst hq
      have hv : Hid (vtextOf p 1 = digS p) := by unfold Hid vtextOf; simp
      go_enter Tryz.func133, Tryz.ntmps133
      go_wp2_with (first | (go_at_call 161; refine (Hlow.out _).mono ?_; rintro e w1 ⟨rfl, hg1⟩) | (go_at_call 54; refine (itoa_any p ⟨p0, p1⟩ _).mono ?_; rintro e w2 ⟨rfl, rfl⟩))
      go_ret
      exact ⟨ret_str (hv.out.symm.trans ht.out), hg1⟩
    · have hb : (q == 1) = false := by simpa using hq
      have hv : Hid (vtextOf p q = digS p ++ ⟨#[47]⟩ ++ digS q) := by unfold Hid vtextOf; rw [if_neg hq]
      go_enter Tryz.func133, Tryz.ntmps133
      go_wp2_with (go_at_call 161; refine (Hlow.out _).mono ?_; rintro e w1 ⟨rfl, hg1⟩)
      refine (itoa_any p ⟨p0, p1⟩ _).mono ?_
      rintro e w2 ⟨rfl, rfl⟩
      go_wp2_with fail
      refine (itoa_any q ⟨q0, q1⟩ _).mono ?_
      rintro e w2 ⟨rfl, rfl⟩
      go_wp2_with fail
      go_ret
      exact ⟨ret_str (hv.out.symm.trans ht.out), hg1⟩

theorem stext_any (n v : Int) (w : World) :
    Calls Tryz.prog 65 #[.int .i64 n, .int .i64 v] w (StrPost (vtext n v) w) := by
  cases e1 : vokB n v
  · have ht : Hid (⟨#[]⟩ = vtext n v) := by unfold Hid vtext; simp [e1]
    go_enter Tryz.func65, Tryz.ntmps65
    go_wp2_with (go_at_call 110; refine (slow_any _ _ _).mono ?_; rintro e w1 ⟨rfl, hg1⟩)
    go_ret
    exact ⟨ret_str ht.out, hg1⟩
  · obtain ⟨p0, p1, q0, q1⟩ := lowSmall e1
    have ht : Hid (vtextOf (lowP n v) (lowW n v) = vtext n v) := by unfold Hid vtext; simp [e1]
    have hlow := slow_any n v
    unfold LowPost at hlow
    generalize lowP n v = p at *
    generalize lowW n v = q at *
    have Hlow := Lib.hid hlow
    clear hlow
    by_cases hq : q = 1
    · subst hq
      have hv : Hid (vtextOf p 1 = digS p) := by unfold Hid vtextOf; simp
      go_enter Tryz.func65, Tryz.ntmps65
      go_wp2_with (first | (go_at_call 110; refine (Hlow.out _).mono ?_; rintro e w1 ⟨rfl, hg1⟩) | (go_at_call 62; refine (number_any p ⟨p0, p1⟩ _).mono ?_; rintro e w2 ⟨rfl, hg2⟩))
      go_ret
      exact ⟨ret_str (hv.out.symm.trans ht.out), grownBy_trans hg1 hg2⟩
    · have hb : (q == 1) = false := by simpa using hq
      have hv : Hid (vtextOf p q = digS p ++ ⟨#[47]⟩ ++ digS q) := by unfold Hid vtextOf; rw [if_neg hq]
      go_enter Tryz.func65, Tryz.ntmps65
      go_wp2_with (go_at_call 110; refine (Hlow.out _).mono ?_; rintro e w1 ⟨rfl, hg1⟩)
      refine (number_any p ⟨p0, p1⟩ _).mono ?_
      rintro e w2 ⟨rfl, hg2⟩
      go_wp2_with fail
      refine (number_any q ⟨q0, q1⟩ _).mono ?_
      rintro e w3 ⟨rfl, hg3⟩
      go_wp2_with fail
      go_ret
      exact ⟨ret_str (hv.out.symm.trans ht.out), grownBy_trans (grownBy_trans hg1 hg2) hg3⟩

end Go.Proofs.YtlnffpofbfigaaaGreatDoor

/-
  The model's LeastAt, AlwaysOk, AgainstOf, SameAt. No condition.
-/
namespace Go.Proofs.YtlnffpofbfigaaaGreatDoor
open Go.RowKit

theorem sleast_no (n : Int) (s : ByteArray) (w : World) (h : inB n 1 6 = false ∨ fOf (bl s) = none) :
    Calls Tryz.prog 66 #[.int .i64 n, .string s] w fun e w' => e = .returned (.int .i64 (-1)) ∧ w = w' := by
  have cf := sform_any s w
  have ci := in_any n 1 6 w
  cases ho : isF (bl s)
  · rw [ho] at cf
    clear h ho
    go_enter Tryz.func66, Tryz.ntmps66
    go_wp2_with fail
    refine cf.mono ?_
    rintro e w1 ⟨rfl, rfl⟩
    go_wp2_with fail
    go_ret
    exact ⟨rfl, rfl⟩
  · have hi : inB n 1 6 = false := h.resolve_right fun e => by rw [isF_f e] at ho; cases ho
    rw [ho] at cf
    rw [hi] at ci
    clear h ho hi
    go_enter Tryz.func66, Tryz.ntmps66
    go_wp2_with (first | (go_at_call 74; refine cf.mono ?_; clear cf; rintro e w1 ⟨rfl, rfl⟩) | (go_at_call 96; refine ci.mono ?_; clear ci; rintro e w1 ⟨rfl, rfl⟩))
    go_ret
    exact ⟨rfl, rfl⟩

/-- The values of the letters at a place, as the model reckons them. -/
theorem place_q {N k : Nat} (hk : k < cub N) : ∃ D : Int, 0 ≤ D ∧ D ≤ k ∧ (k : Int).tdiv ((N : Int) + 1) = D ∧ D.tdiv ((N : Int) + 1) = (tA N k : Int) ∧ D.tmod ((N : Int) + 1) = (tB N k : Int) ∧ (k : Int).tmod ((N : Int) + 1) = (tC N k : Int) := by
  refine ⟨((k / (N + 1) : Nat) : Int), Int.natCast_nonneg _, ?_, rfl, ?_, rfl, rfl⟩
  · exact Int.ofNat_le.2 (Nat.div_le_self k (N + 1))
  · rw [tA_eq hk]; rfl
/-- The number of places, as the model reckons it. -/
theorem cub_q {N : Nat} (hN : 1 ≤ N ∧ N ≤ 6) : ∃ M : Int, wrap64 (((N : Int) + 1) * ((N : Int) + 1)) = M ∧ wrap64 (M * ((N : Int) + 1)) = (cub N : Int) := by
  have h : N = 1 ∨ N = 2 ∨ N = 3 ∨ N = 4 ∨ N = 5 ∨ N = 6 := by omega
  rcases h with rfl | rfl | rfl | rfl | rfl | rfl <;> exact ⟨_, rfl, by decide +kernel⟩

theorem lowU_min (N : Nat) (t : Tr) (k : Nat) : (if atK N t k < lowU N t k then atK N t k else lowU N t k) = lowU N t (k + 1) := by
  by_cases h : lowU N t k ≤ atK N t k
  · rw [lowU_s1 h, if_neg (by omega)]
  · rw [lowU_s2 h, if_pos (by omega)]

set_option maxRecDepth 100000 in
set_option maxHeartbeats 4000000 in
theorem sleast_yes (N : Nat) (hN : 1 ≤ N ∧ N ≤ 6) (s : ByteArray) (w : World) {t : Tr} (ho : fOf (bl s) = some t) :
    Calls Tryz.prog 66 #[.int .i64 N, .string s] w fun e w' => e = .returned (.int .i64 (lowU N t (cub N))) ∧ w.grownBy w' none := by
  have cf := sform_any s w
  have ci := in_any N 1 6 w
  rw [inB_t (n := N) (by omega)] at ci
  rw [isF_t ho] at cf
  obtain ⟨hs, hl⟩ := fOf_some ho
  have hsz : s.size ≤ 1048576 := by rw [bl_size, hs]; omega
  have cv : ∀ (k : Nat) (w : World), Calls Tryz.prog 111 #[.int .i64 N, .string s, .int .i64 (tA N k), .int .i64 (tB N k), .int .i64 (tC N k)] w fun e w' => e = .returned (.int .i64 (atK N t k)) ∧ w = w' := fun k w => sv_all (tri_ok hN k) t s w hs hsz
  clear ho hs hl hsz
  have hc := cub_le hN.2
  obtain ⟨M, m1, m2⟩ := cub_q hN
  have m0 : ¬ ((N : Int) + 1 = 0) := by omega
  go_enter Tryz.func66, Tryz.ntmps66
  go_wp2_with (first | (go_at_call 74; refine cf.mono ?_; clear cf; rintro e w1 ⟨rfl, rfl⟩) | (go_at_call 96; refine ci.mono ?_; clear ci; rintro e w1 ⟨rfl, rfl⟩))
  go_loopw [6, 7] (fun v i wr => ∃ k : Nat, k ≤ cub N ∧ i = .int .i64 k ∧ v = .int .i64 (lowU N t k) ∧ w.grownBy wr none) (fun _ i _ => cub N - (intOf i).toNat)
  case atStart => exact ⟨0, by omega, rfl, rfl, grownBy_refl _ _⟩
  case round =>
    obtain ⟨k, hk, rfl, rfl, hgr⟩ := hrel
    by_cases hlt : k < cub N
    · obtain ⟨D, d0, d1, p0, p1, p2, p3⟩ := place_q hlt
      have a0 := tA_le N k
      have b0 := tB_le N k
      have c0 := tC_le N k
      have z1 : IntKind.i64.wrap D = D := IntWalk.i64_in _ (by omega)
      have z2 : IntKind.i64.wrap (tA N k : Int) = tA N k := IntWalk.i64_in _ (by omega)
      have z3 : IntKind.i64.wrap (tB N k : Int) = tB N k := IntWalk.i64_in _ (by omega)
      have z4 : IntKind.i64.wrap (tC N k : Int) = tC N k := IntWalk.i64_in _ (by omega)
      go_wp2
      go_region_held3 (fun w' => w.grownBy w' none) (first | exact grownBy_drew hgr | assumption) (first | (go_at_call 111; refine (cv k _).mono ?_; rintro e w2 ⟨rfl, rfl⟩))
      go_wp2
      go_roundw
      case rel => exact ⟨k + 1, by omega, by go_num, by rw [lowU_min], grownBy_drew hgr⟩
      case measure => simp [intOf]; omega
    · obtain rfl : k = cub N := by omega
      go_wp2
      go_ret
      exact ⟨rfl, hgr⟩

theorem sleast_any (n : Int) (s : ByteArray) (w : World) :
    Calls Tryz.prog 66 #[.int .i64 n, .string s] w fun e w' => e = .returned (.int .i64 (leastI n (bl s))) ∧ w.grownBy w' none := by
  cases hi : inB n 1 6
  · rw [leastI_o hi]; exact (sleast_no n s w (.inl hi)).mono fun e w' ⟨h1, h2⟩ => ⟨h1, by rw [h2]; exact grownBy_refl _ _⟩
  · cases ho : fOf (bl s) with
    | none => rw [leastI_n ho]; exact (sleast_no n s w (.inr ho)).mono fun e w' ⟨h1, h2⟩ => ⟨h1, by rw [h2]; exact grownBy_refl _ _⟩
    | some t =>
      obtain ⟨N, rfl, hN⟩ := nat_of hi
      rw [leastI_t ho hi]
      exact sleast_yes N hN s w ho

theorem least_alw (n : Int) (l : List UInt8) : ((leastI n l == n) = true ∧ 0 < n) ↔ alwB n l = true := by
  cases hi : inB n 1 6
  · have := inB_not hi
    rw [leastI_o hi, alwB_o hi]
    simp
    omega
  · cases ho : fOf l with
    | none => rw [leastI_n ho, alwB_n ho]; simp; omega
    | some t =>
      obtain ⟨N, rfl, hN⟩ := nat_of hi
      rw [leastI_t ho hi, alwB_t ho hi, low_alw hN]
      exact ⟨fun h => h.1, fun h => ⟨h, by omega⟩⟩

theorem salways_any (n : Int) (s : ByteArray) (w : World) :
    Calls Tryz.prog 64 #[.int .i64 n, .string s] w fun e w' => e = .returned (.bool (alwB n (bl s))) ∧ w.grownBy w' none := by
  have cl := sleast_any n s w
  have hb := least_alw n (bl s)
  cases ha : alwB n (bl s)
  · by_cases he : (leastI n (bl s) == n) = true
    · have hn : decide (0 < n) = false := decide_eq_false fun h => by have := hb.1 ⟨he, h⟩; rw [ha] at this; cases this
      clear hb ha
      go_enter Tryz.func64, Tryz.ntmps64
      go_wp2_with fail
      refine cl.mono ?_
      rintro e w1 ⟨rfl, g1⟩
      clear cl
      go_wp2_with fail
      go_ret
      exact ⟨rfl, g1⟩
    · have he' : (leastI n (bl s) == n) = false := by simpa using he
      clear hb ha he
      go_enter Tryz.func64, Tryz.ntmps64
      go_wp2_with fail
      refine cl.mono ?_
      rintro e w1 ⟨rfl, g1⟩
      clear cl
      go_wp2_with fail
      go_ret
      exact ⟨rfl, g1⟩
  · obtain ⟨he, h0⟩ := hb.2 ha
    have hn : decide (0 < n) = true := decide_eq_true h0
    clear hb ha h0
    go_enter Tryz.func64, Tryz.ntmps64
    go_wp2_with fail
    refine cl.mono ?_
    rintro e w1 ⟨rfl, g1⟩
    clear cl
    go_wp2_with fail
    go_ret
    exact ⟨rfl, g1⟩

end Go.Proofs.YtlnffpofbfigaaaGreatDoor

/-
  How far values, rows and formulas are apart, as plain numbers. No program is named.
-/
namespace Go.Proofs.YtlnffpofbfigaaaGreatDoor

def gap (a b : Int) : Int := if a ≤ b then b - a else a - b
theorem gap_sym (a b : Int) : gap a b = gap b a := by unfold gap; split <;> split <;> omega
theorem gap_pos (a b : Int) : 0 ≤ gap a b := by unfold gap; split <;> omega
theorem gap_zero {a b : Int} : gap a b = 0 ↔ a = b := by unfold gap; split <;> omega
theorem gap_over (a b c : Int) : gap a b ≤ gap a c + gap c b := by unfold gap; repeat' split <;> omega
theorem gap_self (a : Int) : gap a a = 0 := gap_zero.2 rfl
theorem gap_low (a b : Int) : gap a (if a ≤ b then a else b) + gap (if a ≤ b then a else b) b = gap a b := by
  by_cases h : a ≤ b
  · rw [if_pos h, gap_self]; omega
  · rw [if_neg h, gap_self]; omega
def farW (n a b : Int) : Int := if twoB n a b = true then gap a b else -1
theorem farW_t {n a b : Int} (h : twoB n a b = true) : farW n a b = gap a b := if_pos h
theorem farW_f {n a b : Int} (h : twoB n a b = false) : farW n a b = -1 := by unfold farW; rw [h]; rfl
def alkW (n a b : Int) : Int := if twoB n a b = true then n - gap a b else -1
theorem alkW_t {n a b : Int} (h : twoB n a b = true) : alkW n a b = n - gap a b := if_pos h
theorem alkW_f {n a b : Int} (h : twoB n a b = false) : alkW n a b = -1 := by unfold alkW; rw [h]; rfl
theorem gap_le {n a b : Int} (h : twoB n a b = true) : gap a b ≤ n := by
  obtain ⟨_, _, k⟩ := twoB_of h
  unfold gap
  split <;> omega

/-- Signs bring values no farther apart. -/
theorem app_gap (g : Sg) {n x y x' y' : Int} (hx : vokB n x = true) (hy : vokB n y = true) (hx' : vokB n x' = true) (hy' : vokB n y' = true) : gap (g.app n x y) (g.app n x' y') ≤ gap x x' + gap y y' := by
  have k1 := vokB_of hx
  have k2 := vokB_of hy
  have k3 := vokB_of hx'
  have k4 := vokB_of hy'
  cases g
  · show gap (folW n x y) (folW n x' y') ≤ _
    rw [fol_raw hx hy, fol_raw hx' hy']
    unfold gap
    repeat' split <;> omega
  · show gap (plusW n x y) (plusW n x' y') ≤ _
    rw [plus_raw hx hy, plus_raw hx' hy']
    unfold gap
    repeat' split <;> omega
  · show gap (timesW n x y) (timesW n x' y') ≤ _
    rw [times_raw hx hy, times_raw hx' hy']
    unfold gap
    repeat' split <;> omega
  · show gap (lessW n x y) (lessW n x' y') ≤ _
    rw [less_raw hx hy, less_raw hx' hy']
    unfold gap
    repeat' split <;> omega
  · show gap (greatW n x y) (greatW n x' y') ≤ _
    rw [great_raw hx hy, great_raw hx' hy']
    unfold gap
    repeat' split <;> omega
theorem not_gap {n x x' : Int} (hx : vokB n x = true) (hx' : vokB n x' = true) : gap (notW n x) (notW n x') = gap x x' := by
  rw [notW_t hx, notW_t hx']
  unfold gap
  split <;> split <;> omega
/-- Formulas move at most as often as letters stand in them. -/
theorem val_gap {n a a' b c : Int} (h : thrB n a b c = true) (h' : thrB n a' b c = true) (hd : gap a a' ≤ 1) : ∀ t : Tr, gap (t.val n a b c) (t.val n a' b c) ≤ (t.ls : Int) := by
  intro t
  induction t with
  | lt x =>
    cases x
    · exact hd
    · show gap b b ≤ _; rw [gap_self]; exact Int.natCast_nonneg _
    · show gap c c ≤ _; rw [gap_self]; exact Int.natCast_nonneg _
  | tru x => show gap _ _ ≤ _; exact Int.le_of_eq (gap_self _)
  | neg x ih =>
    show gap (notW n _) (notW n _) ≤ ((x.ls : Nat) : Int)
    rw [not_gap (val_ok h x) (val_ok h' x)]
    exact ih
  | bin g x y ihx ihy =>
    have := app_gap g (val_ok h x) (val_ok h y) (val_ok h' x) (val_ok h' y)
    show gap (g.app n _ _) (g.app n _ _) ≤ (((x.ls + y.ls : Nat)) : Int)
    omega
/-- Without the letter a nothing moves with it. -/
theorem val_noA (n a a' b c : Int) : ∀ t : Tr, (97 : UInt8) ∉ t.txt → t.val n a b c = t.val n a' b c := by
  intro t
  induction t with
  | lt x =>
    intro h
    cases x
    · exact absurd (List.mem_singleton.2 rfl) h
    · rfl
    · rfl
  | tru x => intro _; rfl
  | neg x ih =>
    intro h
    show notW n _ = notW n _
    rw [ih fun hm => h (List.mem_cons_of_mem _ hm)]
  | bin g x y ihx ihy =>
    intro h
    show g.app n _ _ = g.app n _ _
    rw [ihx fun hm => h (by simp [Tr.txt, hm]), ihy fun hm => h (by simp [Tr.txt, hm])]

/-! Rows. -/

def rowB (n : Int) (l : List Int) : Bool := inB n 1 6 && inB l.length 1 7 && l.all (vokB n)
def gapS (x y : List Int) : Nat → Int
  | 0 => 0
  | k + 1 => gapS x y k + gap (x.getD k 0) (y.getD k 0)
def alkM (n : Int) (x y : List Int) : Nat → Int
  | 0 => n
  | k + 1 => if alkM n x y k ≤ n - gap (x.getD k 0) (y.getD k 0) then alkM n x y k else n - gap (x.getD k 0) (y.getD k 0)
theorem gapS_pos (x y : List Int) : ∀ k, 0 ≤ gapS x y k := by
  intro k
  induction k with
  | zero => exact Int.le_refl _
  | succ k ih => have := gap_pos (x.getD k 0) (y.getD k 0); unfold gapS; omega
theorem gapS_sym (x y : List Int) : ∀ k, gapS x y k = gapS y x k := by
  intro k
  induction k with
  | zero => rfl
  | succ k ih => unfold gapS; rw [ih, gap_sym]
theorem gapS_zero (x y : List Int) : ∀ k, gapS x y k = 0 ↔ ∀ j, j < k → x.getD j 0 = y.getD j 0 := by
  intro k
  induction k with
  | zero => exact ⟨fun _ j hj => absurd hj (by omega), fun _ => rfl⟩
  | succ k ih =>
    have h1 := gapS_pos x y k
    have h2 := gap_pos (x.getD k 0) (y.getD k 0)
    unfold gapS
    refine ⟨fun h j hj => ?_, fun h => ?_⟩
    · by_cases e : j < k
      · exact ih.1 (by omega) j e
      · obtain rfl : j = k := by omega
        exact gap_zero.1 (by omega)
    · rw [ih.2 fun j hj => h j (by omega), gap_zero.2 (h k (by omega))]
      rfl
theorem getD_ext {x y : List Int} (hl : x.length = y.length) (h : ∀ j, j < x.length → x.getD j 0 = y.getD j 0) : x = y := by
  apply List.ext_getElem hl
  intro i h1 h2
  have := h i h1
  rw [List.getD_eq_getElem?_getD, List.getElem?_eq_getElem h1, List.getD_eq_getElem?_getD, List.getElem?_eq_getElem h2] at this
  exact this
theorem gapS_eq {x y : List Int} (hl : x.length = y.length) : (gapS x y x.length == 0) = (x == y) := by
  cases h : x == y
  · rw [beq_eq_false_iff_ne] at h ⊢
    exact fun e => h (getD_ext hl ((gapS_zero x y _).1 e))
  · rw [beq_iff_eq] at h ⊢
    subst h
    exact (gapS_zero x x _).2 fun _ _ => rfl
theorem gapS_low (x y l : List Int) : ∀ k, (∀ j, j < k → l.getD j 0 = if x.getD j 0 ≤ y.getD j 0 then x.getD j 0 else y.getD j 0) → gapS x l k + gapS l y k = gapS x y k := by
  intro k
  induction k with
  | zero => intro _; rfl
  | succ k ih =>
    intro h
    have := gap_low (x.getD k 0) (y.getD k 0)
    rw [← h k (by omega)] at this
    have := ih fun j hj => h j (by omega)
    unfold gapS
    omega
theorem alkM_le (n : Int) (x y : List Int) : ∀ k, alkM n x y k ≤ n := by
  intro k
  induction k with
  | zero => exact Int.le_refl _
  | succ k ih => unfold alkM; split <;> omega
theorem alkM_at (n : Int) (x y : List Int) : ∀ k j, j < k → alkM n x y k ≤ n - gap (x.getD j 0) (y.getD j 0) := by
  intro k
  induction k with
  | zero => intro j hj; omega
  | succ k ih =>
    intro j hj
    by_cases e : j < k
    · have := ih j e
      unfold alkM
      split <;> omega
    · obtain rfl : j = k := by omega
      unfold alkM
      split <;> omega
theorem alkM_far (n : Int) (x y : List Int) : ∀ k, n - alkM n x y k ≤ gapS x y k := by
  intro k
  induction k with
  | zero => show n - n ≤ 0; omega
  | succ k ih =>
    have h1 := gapS_pos x y k
    have h2 := gap_pos (x.getD k 0) (y.getD k 0)
    unfold alkM gapS
    split <;> omega
theorem alkM_all (n : Int) (x y : List Int) : ∀ k, alkM n x y k = n ↔ ∀ j, j < k → x.getD j 0 = y.getD j 0 := by
  intro k
  refine ⟨fun h j hj => ?_, fun h => ?_⟩
  · have h1 := alkM_at n x y k j hj
    have h2 := gap_pos (x.getD j 0) (y.getD j 0)
    exact gap_zero.1 (by omega)
  · have h1 := alkM_far n x y k
    rw [(gapS_zero x y k).2 h] at h1
    have := alkM_le n x y k
    omega
theorem alkM_eq {n : Int} {x y : List Int} (hl : x.length = y.length) : (alkM n x y x.length == n) = (x == y) := by
  cases h : x == y
  · rw [beq_eq_false_iff_ne] at h ⊢
    exact fun e => h (getD_ext hl ((alkM_all n x y _).1 e))
  · rw [beq_iff_eq] at h ⊢
    subst h
    exact (alkM_all n x x _).2 fun _ _ => rfl

/-! How far a formula moves. -/

/-- The greatest way so far, over the places ahead of k. -/
def movU (n : Nat) (t : Tr) : Nat → Int
  | 0 => 0
  | k + 1 => if k / (n + 1) / (n + 1) = 0 then movU n t k else if gap (t.val n (tA n k) (tB n k) (tC n k)) (t.val n ((tA n k : Int) - 1) (tB n k) (tC n k)) ≤ movU n t k then movU n t k else gap (t.val n (tA n k) (tB n k) (tC n k)) (t.val n ((tA n k : Int) - 1) (tB n k) (tC n k))
theorem movU_pos (n : Nat) (t : Tr) : ∀ k, 0 ≤ movU n t k := by
  intro k
  induction k with
  | zero => exact Int.le_refl _
  | succ k ih => unfold movU; repeat' split <;> omega
theorem movU_le {n : Nat} (hn : 1 ≤ n ∧ n ≤ 6) (t : Tr) : ∀ k, k ≤ cub n → movU n t k ≤ (t.ls : Int) := by
  intro k
  induction k with
  | zero => intro _; exact Int.natCast_nonneg _
  | succ k ih =>
    intro hk
    have h1 := ih (by omega)
    unfold movU
    split
    · exact h1
    · rename_i hz
      split
      · exact h1
      · have hA : tA n k = k / (n + 1) / (n + 1) := tA_eq (by omega)
        have ht := tri_ok hn k
        obtain ⟨q1, q2, q3⟩ := thrB_of ht
        have k1 := vokB_of q1
        have ht' : thrB n ((tA n k : Int) - 1) (tB n k) (tC n k) = true := thrB_mk (vokB_t (by omega)) q2 q3
        exact val_gap ht ht' (by unfold gap; split <;> omega) t
theorem movU_noA (n : Nat) (t : Tr) (h : (97 : UInt8) ∉ t.txt) : ∀ k, movU n t k = 0 := by
  intro k
  induction k with
  | zero => rfl
  | succ k ih =>
    unfold movU
    rw [val_noA n _ ((tA n k : Int) - 1) _ _ t h, gap_self, ih]
    repeat' split <;> omega

end Go.Proofs.YtlnffpofbfigaaaGreatDoor

/-
  Slices of integers that a call made or was handed: what is read of them (sameInts, eqIntS, ascend, heldIntS), what is written into one that the law owns (markIntS).
-/
namespace Go.Proofs.YtlnffpofbfigaaaGreatDoor
open Go.RowKit

def IntsAt (w : World) (a : Option Addr) (zs : List Int) : Prop :=
  zs.length ≤ maxLen ∧ (zs = [] ∨ ∃ b off, a = some ⟨b, off, none⟩ ∧ b < w.heap.size ∧ ∀ i, i < zs.length → w.cell? ⟨b, off + i, none⟩ = some (.int .i64 (zs.getD i 0)))

theorem IntsAt.grown {w w' : World} {a : Option Addr} {zs : List Int} (h : IntsAt w a zs) (hg : w.grownBy w' none) : IntsAt w' a zs := by
  refine ⟨h.1, ?_⟩
  rcases h.2 with h | ⟨b, off, ha, hb, hc⟩
  · exact .inl h
  · exact .inr ⟨b, off, ha, Nat.lt_of_lt_of_le hb hg.size, fun i hi => (World.cell?_of_block (w := w) (a := ⟨b, off + i, none⟩) (hg.block b hb (by simp))).trans (hc i hi)⟩

/-- Behind a call that made memory, a row of an older block reads as before. -/
theorem IntsAt.kept {w w' : World} {a : Option Addr} {zs : List Int} {row : Option Nat} (h : IntsAt w a zs) (hg : w.grownBy w' row) (hne : ∀ x, a = some x → some x.block ≠ row) : IntsAt w' a zs := by
  refine ⟨h.1, ?_⟩
  rcases h.2 with h | ⟨b, off, ha, hb, hc⟩
  · exact .inl h
  · exact .inr ⟨b, off, ha, Nat.lt_of_lt_of_le hb hg.size, fun i hi => (World.cell?_of_block (w := w) (a := ⟨b, off + i, none⟩) (hg.block b hb (hne _ ha))).trans (hc i hi)⟩

/-- A row of integers that the call owns: its block lies at base or above. -/
def OwnI (w : World) (base : Nat) (a : Option Addr) (cap : Nat) (zs : List Int) : Prop :=
  w.ownsRow base 3 1 (.slice a zs.length cap) zs.length (zs.map (Value.int .i64))

theorem ownI_shape {w : World} {base n : Nat} {v : Value} {zs : List Int} (h : w.ownsRow base 3 1 v n (zs.map (Value.int .i64))) : ∃ a cap, v = .slice a zs.length cap ∧ n = zs.length ∧ OwnI w base a cap zs := by
  have hl := h.1
  simp at hl
  subst hl
  rcases h.2 with ⟨rfl, h0⟩ | ⟨g, cap, cur, rfl, h1⟩
  · exact ⟨none, 0, by rw [h0], rfl, by unfold OwnI; rw [h0]; rw [h0] at h; exact h⟩
  · exact ⟨some ⟨g, 0, none⟩, cap, rfl, rfl, h⟩

theorem OwnI.at {w : World} {base : Nat} {a : Option Addr} {cap : Nat} {zs : List Int} (h : OwnI w base a cap zs) (hm : zs.length ≤ maxLen) : IntsAt w a zs := by
  refine ⟨hm, ?_⟩
  rcases h.2 with ⟨_, h0⟩ | ⟨g, c, cur, he, hb, hg, h1⟩
  · exact .inl (List.length_eq_zero_iff.1 h0)
  · simp only [Value.slice.injEq, true_and] at he
    obtain ⟨rfl, rfl⟩ := he
    refine .inr ⟨g, 0, rfl, (Array.getElem?_eq_some_iff.1 hg).1, fun i hi => ?_⟩
    have hc := World.ownsRow.cellAt h i (by omega)
    rw [Nat.zero_add, hc]
    simp [hi]

theorem OwnI.kept {w w' : World} {base : Nat} {a : Option Addr} {cap : Nat} {zs : List Int} (h : OwnI w base a cap zs) (hg : w.grownBy w' none) : OwnI w' base a cap zs :=
  World.ownsRow.kept h hg (by cases (Value.slice a zs.length cap).ownBlock <;> simp)

theorem OwnI.nil (w : World) (base : Nat) : OwnI w base none 0 [] := World.ownsRow_nil _ _ _ _

/-- Growth by a row that the call owns. -/
theorem grownBy_row {a b c : World} {base : Nat} {v : Value} {n : Nat} {xs : List Value} {e : TypeId} (h : a.grownBy b none) (ho : b.ownsRow base e 1 v n xs) (hb : a.heap.size ≤ base) (k : b.grownBy c v.ownBlock) : a.grownBy c none :=
  ⟨k.os.trans h.os, k.tape.trans h.tape, k.output.trans h.output, Nat.le_trans h.size k.size, fun i hi _ => by
    refine (k.block i (Nat.lt_of_lt_of_le hi h.size) fun e => ?_).trans (h.block i hi (by simp))
    have := World.ownsRow.lt ho i e.symm
    omega⟩

/-- What a function that answers with a new slice of integers leaves. -/
def IntsPost (zs : List Int) (w : World) (e : Ending) (w' : World) : Prop :=
  ∃ a cap, e = .returned (.slice a zs.length cap) ∧ OwnI w' w.heap.size a cap zs ∧ w.grownBy w' none

/-! Two rows, the same or not. -/
def sameL (x y : List Int) : Bool := x == y
theorem sameL_self (x : List Int) : sameL x x = true := by unfold sameL; simp
def upTo (x y : List Int) (k : Nat) : Prop := ∀ j, j < k → x.getD j 0 = y.getD j 0
theorem upTo_0 (x y : List Int) : upTo x y 0 := fun _ h => absurd h (by omega)
theorem upTo_next {x y : List Int} {k : Nat} (h : upTo x y k) (e : x.getD k 0 = y.getD k 0) : upTo x y (k + 1) := fun j hj => by
  by_cases q : j = k
  · rw [q]; exact e
  · exact h j (by omega)
theorem sameL_all {x y : List Int} (hl : x.length = y.length) (h : upTo x y x.length) : sameL x y = true := by
  unfold sameL
  rw [beq_iff_eq]
  apply List.ext_getElem hl
  intro i h1 h2
  have := h i h1
  simpa [List.getD_eq_getElem?_getD, h1, h2] using this
theorem sameL_len {x y : List Int} (hl : ¬ x.length = y.length) : sameL x y = false := by
  unfold sameL
  rw [beq_eq_false_iff_ne]
  intro e; exact hl (by rw [e])
theorem sameL_no {x y : List Int} {k : Nat} (e : ¬ x.getD k 0 = y.getD k 0) : sameL x y = false := by
  unfold sameL
  rw [beq_eq_false_iff_ne]
  intro q; exact e (by rw [q])

def UpRel (x y : List Int) (w : World) (i : Value) (wr : World) : Prop := ∃ k : Nat, k ≤ x.length ∧ i = .int .i64 k ∧ upTo x y k ∧ w.grownBy wr none

/-! Rows in ascending order. -/
def ascTo (x : List Int) (k : Nat) : Prop := ∀ j, j + 1 < k → x.getD j 0 < x.getD (j + 1) 0
def ascL : List Int → Bool
  | [] => true
  | [_] => true
  | x :: y :: l => decide (x < y) && ascL (y :: l)
theorem ascL_all : ∀ {x : List Int}, ascTo x x.length → ascL x = true
  | [], _ => rfl
  | [_], _ => rfl
  | a :: b :: l, h => by
    have h0 := h 0 (by simp)
    have ih := ascL_all (x := b :: l) (fun j hj => by have := h (j + 1) (by simp at hj ⊢; omega); simpa using this)
    unfold ascL
    rw [ih]
    simpa using h0
theorem ascL_of : ∀ {x : List Int}, ascL x = true → ∀ j, j + 1 < x.length → x.getD j 0 < x.getD (j + 1) 0
  | [], _, j, hj => by simp at hj
  | [_], _, j, hj => by simp at hj
  | a :: b :: l, h, j, hj => by
    unfold ascL at h
    rw [Bool.and_eq_true] at h
    cases j with
    | zero => simpa using h.1
    | succ j => have := ascL_of (x := b :: l) h.2 j (by simp at hj ⊢; omega); simpa using this
theorem ascL_no {x : List Int} {k : Nat} (hk : k + 1 < x.length) (h : ¬ x.getD k 0 < x.getD (k + 1) 0) : ascL x = false := by
  cases e : ascL x
  · rfl
  · exact absurd (ascL_of e k hk) h
theorem ascTo_1 (x : List Int) : ascTo x 1 := fun _ h => absurd h (by omega)
theorem ascTo_next {x : List Int} {k : Nat} (h : ascTo x k) (hk : 1 ≤ k) (e : x.getD (k - 1) 0 < x.getD k 0) : ascTo x (k + 1) := fun j hj => by
  by_cases q : j + 1 = k
  · obtain rfl : j = k - 1 := by omega
    rw [show k - 1 + 1 = k from by omega]; exact e
  · exact h j (by omega)

def AscRel (x : List Int) (w : World) (i : Value) (wr : World) : Prop := ∃ k : Nat, 1 ≤ k ∧ (k ≤ x.length ∨ k = 1) ∧ i = .int .i64 k ∧ ascTo x k ∧ w.grownBy wr none

/-! Marks in a row that the law owns. -/
def marks (k : Int) (n : Nat) : List Int := (List.range n).map fun (i : Nat) => k + (i : Int)
theorem marks_len (k : Int) (n : Nat) : (marks k n).length = n := by unfold marks; simp
theorem marks_at (k : Int) (n i : Nat) (h : i < n) : (marks k n).getD i 0 = k + i := by unfold marks; simp [List.getD_eq_getElem?_getD, h]
/-- The row while it is marked: the first j are. -/
def marked (k : Int) (zs : List Int) (j : Nat) : List Int := marks k j ++ zs.drop j
theorem marked_len (k : Int) (zs : List Int) (j : Nat) (h : j ≤ zs.length) : (marked k zs j).length = zs.length := by unfold marked; rw [List.length_append, marks_len, List.length_drop]; omega
theorem marked_0 (k : Int) (zs : List Int) : marked k zs 0 = zs := by simp [marked, marks]
theorem marked_all (k : Int) (zs : List Int) : marked k zs zs.length = marks k zs.length := by simp [marked]
theorem marked_next (k : Int) (zs : List Int) (j : Nat) (h : j < zs.length) : (marked k zs j).set j (k + j) = marked k zs (j + 1) := by
  unfold marked
  rw [List.set_append_right _ _ (by rw [marks_len]; omega), marks_len, Nat.sub_self]
  have hd : zs.drop j = zs[j] :: zs.drop (j + 1) := by rw [List.drop_eq_getElem_cons h]
  rw [hd]
  simp only [List.set_cons_zero]
  have hm : marks k (j + 1) = marks k j ++ [k + (j : Int)] := by unfold marks; rw [List.range_succ, List.map_append]; rfl
  rw [hm, List.append_assoc]
  rfl

def MarkRel (k : Int) (base : Nat) (g cap : Nat) (zs : List Int) (w : World) (kv i : Value) (wr : World) : Prop :=
  ∃ j : Nat, j ≤ zs.length ∧ i = .int .i64 j ∧ kv = .int .i64 (k + j) ∧ wr.ownsRow base 3 1 (.slice (some ⟨g, 0, none⟩) zs.length cap) zs.length ((marked k zs j).map (Value.int .i64)) ∧ w.grownBy wr (some g)

theorem mark_step {w wr : World} {base g cap : Nat} {k : Int} {zs : List Int} {j : Nat} (hj : j < zs.length) (ho : wr.ownsRow base 3 1 (.slice (some ⟨g, 0, none⟩) zs.length cap) zs.length ((marked k zs j).map (Value.int .i64))) (hg : w.grownBy wr (some g)) :
    (wr.setCell ⟨g, j, none⟩ (.int .i64 (k + j))).ownsRow base 3 1 (.slice (some ⟨g, 0, none⟩) zs.length cap) zs.length ((marked k zs (j + 1)).map (Value.int .i64)) ∧ w.grownBy (wr.setCell ⟨g, j, none⟩ (.int .i64 (k + j))) (some g) := by
  have h := World.ownsRow.stored ho j (.int .i64 (k + j))
  rw [← marked_next k zs j hj, List.map_set]
  exact ⟨h.1, grownBy_trans hg h.2⟩

/-- What a call that marked a row leaves: the row holds the marks; of what was there it has written that row alone. -/
def MarkPost (k : Int) (base : Nat) (a : Option Addr) (cap : Nat) (zs : List Int) (w : World) (e : Ending) (w' : World) : Prop :=
  e = .returned (.int .i64 (k + zs.length)) ∧ w'.ownsRow base 3 1 (.slice a zs.length cap) zs.length ((marks k zs.length).map (Value.int .i64)) ∧ w.grownBy w' (Value.slice a zs.length cap).ownBlock

/-- Two rows that were made one after the other lie in different blocks. -/
theorem own_apart {w1 w2 : World} {base : Nat} {a b : Option Addr} {ca cb : Nat} {x y : List Int} (h1 : OwnI w1 base a ca x) (h2 : OwnI w2 w1.heap.size b cb y) :
    ∀ z, a = some z → some z.block ≠ (Value.slice b y.length cb).ownBlock := by
  intro z hz e
  subst hz
  have l1 := World.ownsRow.lt h1 z.block rfl
  have l2 := World.ownsRow.lt h2 z.block e.symm
  omega

def HeldRel (k : Int) (n : Nat) (w : World) (kv i : Value) (wr : World) : Prop := ∃ j : Nat, j ≤ n ∧ i = .int .i64 j ∧ kv = .int .i64 (k + j) ∧ w = wr

end Go.Proofs.YtlnffpofbfigaaaGreatDoor

/-
  The model's FarOf, AlikeOf, RowOk, RowFar, RowAlike. No condition.
-/
namespace Go.Proofs.YtlnffpofbfigaaaGreatDoor
open Go.RowKit

/-! Rows. -/
theorem rowB_of {n : Int} {l : List Int} (h : rowB n l = true) : (1 ≤ n ∧ n ≤ 6) ∧ (1 ≤ l.length ∧ l.length ≤ 7) ∧ ∀ j, j < l.length → vokB n (l.getD j 0) = true := by
  unfold rowB at h
  rw [Bool.and_eq_true, Bool.and_eq_true, List.all_eq_true] at h
  have h1 := inB_of h.1.1
  have h2 := inB_of h.1.2
  refine ⟨h1, by omega, fun j hj => h.2 _ ?_⟩
  rw [List.getD_eq_getElem?_getD, List.getElem?_eq_getElem hj, Option.getD_some]
  exact List.getElem_mem hj
theorem rowB_no {n : Int} {l : List Int} {k : Nat} (hk : k < l.length) (h : vokB n (l.getD k 0) = false) : rowB n l = false := by
  cases e : rowB n l
  · rfl
  · have := (rowB_of e).2.2 k hk
    rw [h] at this; cases this
theorem rowB_end {n : Int} {l : List Int} (h : ∀ j, j < l.length → vokB n (l.getD j 0) = true) : rowB n l = (inB l.length 1 7 && inB n 1 6) := by
  have : l.all (vokB n) = true := by
    rw [List.all_eq_true]
    intro x hx
    obtain ⟨j, hj, rfl⟩ := List.mem_iff_getElem.1 hx
    have := h j hj
    rwa [List.getD_eq_getElem?_getD, List.getElem?_eq_getElem hj, Option.getD_some] at this
  unfold rowB
  rw [this, Bool.and_true, Bool.and_comm]
def RokRel (n : Int) (xs : List Int) (w : World) (i : Value) (wr : World) : Prop := ∃ k : Nat, k ≤ xs.length ∧ i = .int .i64 k ∧ (∀ j, j < k → vokB n (xs.getD j 0) = true) ∧ w = wr

/-- Two rows of a chain, of as many values. -/
def rowsB (n : Int) (x y : List Int) : Bool := rowB n x && (rowB n y && decide (x.length = y.length))
theorem rowsB_of {n : Int} {x y : List Int} (h : rowsB n x y = true) : rowB n x = true ∧ rowB n y = true ∧ x.length = y.length := by
  unfold rowsB at h
  simpa using h
def rfarW (n : Int) (x y : List Int) : Int := if rowsB n x y = true then gapS x y x.length else -1
theorem rfarW_t {n : Int} {x y : List Int} (h : rowsB n x y = true) : rfarW n x y = gapS x y x.length := if_pos h
theorem rfarW_f {n : Int} {x y : List Int} (h : rowsB n x y = false) : rfarW n x y = -1 := if_neg (by rw [h]; simp)
def ralkW (n : Int) (x y : List Int) : Int := if rowsB n x y = true then alkM n x y x.length else -1
theorem ralkW_t {n : Int} {x y : List Int} (h : rowsB n x y = true) : ralkW n x y = alkM n x y x.length := if_pos h
theorem ralkW_f {n : Int} {x y : List Int} (h : rowsB n x y = false) : ralkW n x y = -1 := if_neg (by rw [h]; simp)
theorem rows_at {n : Int} {x y : List Int} (h : rowsB n x y = true) {k : Nat} (hk : k < x.length) : twoB n (x.getD k 0) (y.getD k 0) = true := by
  obtain ⟨h1, h2, h3⟩ := rowsB_of h
  exact twoB_mk ((rowB_of h1).2.2 k hk) ((rowB_of h2).2.2 k (by omega))
theorem gapS_le {n : Int} {x y : List Int} (h : rowsB n x y = true) : ∀ k, k ≤ x.length → gapS x y k ≤ 6 * k := by
  have hn := (rowB_of (rowsB_of h).1).1
  intro k
  induction k with
  | zero => intro _; exact Int.le_refl _
  | succ k ih =>
    intro hk
    have h1 := ih (by omega)
    have h2 := gap_le (rows_at h (k := k) (by omega))
    unfold gapS
    omega
theorem alkM_pos {n : Int} {x y : List Int} (h : rowsB n x y = true) : ∀ k, k ≤ x.length → 0 ≤ alkM n x y k := by
  have hn := (rowB_of (rowsB_of h).1).1
  intro k
  induction k with
  | zero => intro _; show 0 ≤ n; omega
  | succ k ih =>
    intro hk
    have h1 := ih (by omega)
    have h2 := gap_le (rows_at h (k := k) (by omega))
    unfold alkM
    split <;> omega
theorem alkM_min (n : Int) (x y : List Int) (k : Nat) : (if n - gap (x.getD k 0) (y.getD k 0) < alkM n x y k then n - gap (x.getD k 0) (y.getD k 0) else alkM n x y k) = alkM n x y (k + 1) := by
  show _ = (if alkM n x y k ≤ n - gap (x.getD k 0) (y.getD k 0) then _ else _)
  split <;> split <;> omega

def RfRel (x y : List Int) (w : World) (s i : Value) (wr : World) : Prop := ∃ k : Nat, k ≤ x.length ∧ i = .int .i64 k ∧ s = .int .i64 (gapS x y k) ∧ w.grownBy wr none

theorem rfar_neg {n : Int} {x y : List Int} (h : rowsB n x y = false) : decide (rfarW n x y < 0) = true := by rw [rfarW_f h]; rfl
theorem rfar_pos {n : Int} {x y : List Int} (h : rowsB n x y = true) : decide (rfarW n x y < 0) = false := by
  rw [rfarW_t h]
  exact decide_eq_false (by have := gapS_pos x y x.length; omega)
def RaRel (n : Int) (x y : List Int) (w : World) (s i : Value) (wr : World) : Prop := ∃ k : Nat, k ≤ x.length ∧ i = .int .i64 k ∧ s = .int .i64 (alkM n x y k) ∧ w.grownBy wr none

end Go.Proofs.YtlnffpofbfigaaaGreatDoor

/-
  The model's MovesOf. No condition.
-/
namespace Go.Proofs.YtlnffpofbfigaaaGreatDoor
open Go.RowKit

def movI (n : Int) (l : List UInt8) : Int :=
  match fOf l with
  | some t => if inB n 1 6 = true then movU n.toNat t (cub n.toNat) else -1
  | none => -1
theorem movI_n {n : Int} {l : List UInt8} (h : fOf l = none) : movI n l = -1 := by unfold movI; rw [h]
theorem movI_o {n : Int} {l : List UInt8} (h : inB n 1 6 = false) : movI n l = -1 := by unfold movI; rw [h]; cases fOf l <;> rfl
theorem movI_t {N : Nat} {l : List UInt8} {t : Tr} (h : fOf l = some t) (hi : inB N 1 6 = true) : movI N l = movU N t (cub N) := by unfold movI; rw [h]; simp only [hi]; rfl
/-- One place more. -/
theorem movU_skip {N : Nat} (t : Tr) {k : Nat} (hk : k < cub N) (h : tA N k = 0) : movU N t (k + 1) = movU N t k := by
  show (if k / (N + 1) / (N + 1) = 0 then _ else _) = _
  rw [if_pos (by rw [← tA_eq hk]; exact h)]
theorem movU_go {N : Nat} (t : Tr) {k : Nat} (hk : k < cub N) (h : ¬ tA N k = 0) {p q : Int} (hp : atK N t k = p) (hq : t.val N ((tA N k : Int) - 1) (tB N k) (tC N k) = q) :
    movU N t (k + 1) = if gap p q ≤ movU N t k then movU N t k else gap p q := by
  show (if k / (N + 1) / (N + 1) = 0 then _ else _) = _
  rw [if_neg (by rw [← tA_eq hk]; exact h), ← hp, ← hq]
  rfl
def MvRel (N : Nat) (t : Tr) (w : World) (m i : Value) (wr : World) : Prop := ∃ k : Nat, k ≤ cub N ∧ i = .int .i64 k ∧ m = .int .i64 (movU N t k) ∧ w.grownBy wr none

theorem smov_no (n : Int) (s : ByteArray) (w : World) (h : leastI n (bl s) = -1) :
    Calls Tryz.prog 71 #[.int .i64 n, .string s] w fun e w' => e = .returned (.int .i64 (-1)) ∧ w.grownBy w' none := by
  have c1 := sleast_any n s w
  rw [h] at c1
  clear h
  go_enter Tryz.func71, Tryz.ntmps71
  go_wp2_with fail
  refine c1.mono ?_
  rintro e w1 ⟨rfl, g1⟩
  go_wp2_with fail
  go_ret
  exact ⟨rfl, g1⟩

set_option maxRecDepth 100000 in
set_option maxHeartbeats 8000000 in
theorem smov_yes (N : Nat) (hN : 1 ≤ N ∧ N ≤ 6) (s : ByteArray) (w : World) {t : Tr} (ho : fOf (bl s) = some t) :
    Calls Tryz.prog 71 #[.int .i64 N, .string s] w fun e w' => e = .returned (.int .i64 (movU N t (cub N))) ∧ w.grownBy w' none := by
  have c1 := sleast_any N s w
  rw [leastI_t ho (inB_nat hN)] at c1
  have l0 : 0 ≤ lowU N t (cub N) := by have := vokB_of (lowU_ok hN t (cub N)); omega
  obtain ⟨hs, hl⟩ := fOf_some ho
  have hsz : s.size ≤ 1048576 := by rw [bl_size, hs]; omega
  have cv : ∀ (k : Nat) (w : World), Calls Tryz.prog 111 #[.int .i64 N, .string s, .int .i64 (tA N k), .int .i64 (tB N k), .int .i64 (tC N k)] w fun e w' => e = .returned (.int .i64 (atK N t k)) ∧ w = w' := fun k w => sv_all (tri_ok hN k) t s w hs hsz
  have hlow : ∀ k : Nat, ¬ tA N k = 0 → thrB N ((tA N k : Int) - 1) (tB N k) (tC N k) = true := fun k hk => by
    obtain ⟨q1, q2, q3⟩ := thrB_of (tri_ok hN k)
    have := vokB_of q1
    exact thrB_mk (vokB_t (by omega)) q2 q3
  have cu : ∀ (k : Nat), ¬ tA N k = 0 → ∀ (w : World), Calls Tryz.prog 111 #[.int .i64 N, .string s, .int .i64 ((tA N k : Int) - 1), .int .i64 (tB N k), .int .i64 (tC N k)] w fun e w' => e = .returned (.int .i64 (t.val N ((tA N k : Int) - 1) (tB N k) (tC N k))) ∧ w = w' := fun k hk w => sv_all (hlow k hk) t s w hs hsz
  have hv1 : ∀ k, vokB N (atK N t k) = true := fun k => val_ok (tri_ok hN k) t
  have hv2 : ∀ k, ¬ tA N k = 0 → vokB N (t.val N ((tA N k : Int) - 1) (tB N k) (tC N k)) = true := fun k hk => val_ok (hlow k hk) t
  have HV := Lib.hid (And.intro hv1 hv2)
  have CU := Lib.hid cu
  clear ho hs hl hsz hlow hv1 hv2 cu
  have hc := cub_le hN.2
  obtain ⟨M, m1, m2⟩ := cub_q hN
  have m0 : ¬ ((N : Int) + 1 = 0) := by omega
  generalize lowU N t (cub N) = L at *
  go_enter Tryz.func71, Tryz.ntmps71
  go_wp2_with fail
  refine c1.mono ?_
  rintro e w1 ⟨rfl, g1⟩
  clear c1
  go_wp2_with fail
  go_loopw [6, 7] (fun m i wr => MvRel N t w m i wr) (fun _ i _ => cub N - (intOf i).toNat)
  case atStart => exact ⟨0, by omega, rfl, rfl, g1⟩
  case round =>
    obtain ⟨k, hk, rfl, rfl, hgr⟩ := hrel
    have hm0 := movU_pos N t k
    by_cases hlt : k < cub N
    · obtain ⟨D, d0, d1, p0, p1, p2, p3⟩ := place_q hlt
      have a0 := tA_le N k
      have b0 := tB_le N k
      have c0 := tC_le N k
      have z1 : IntKind.i64.wrap D = D := IntWalk.i64_in _ (by omega)
      have z2 : IntKind.i64.wrap (tA N k : Int) = tA N k := IntWalk.i64_in _ (by omega)
      have z3 : IntKind.i64.wrap (tB N k : Int) = tB N k := IntWalk.i64_in _ (by omega)
      have z4 : IntKind.i64.wrap (tC N k : Int) = tC N k := IntWalk.i64_in _ (by omega)
      by_cases hA : tA N k = 0
      · have hS := Lib.hid (movU_skip t hlt hA)
        have hA' : ((tA N k : Int) == 0) = true := by rw [hA]; rfl
        go_wp2
        go_roundw
        case rel => exact ⟨k + 1, by omega, by go_num, by rw [hS.out], hgr⟩
        case measure => simp [intOf]; omega
      · have cv' := cv k
        have cu' := CU.out k hA
        have v1 := vokB_of (HV.out.1 k)
        have v2 := vokB_of (HV.out.2 k hA)
        have hA' : ((tA N k : Int) == 0) = false := by simpa using hA
        have z5 : IntKind.i64.wrap ((tA N k : Int) - 1) = (tA N k : Int) - 1 := IntWalk.i64_in _ (by omega)
        have hS := Lib.hid (movU_go t hlt hA rfl rfl)
        generalize t.val N ((tA N k : Int) - 1) (tB N k) (tC N k) = q at *
        generalize atK N t k = p at *
        go_wp2
        go_region_held3 (fun w' => w.grownBy w' none) (first | exact grownBy_drew hgr | assumption) (first | (go_at_call 111; refine (cv' _).mono ?_; rintro e w2 ⟨rfl, rfl⟩))
        go_wp2
        go_region_held3 (fun w' => w.grownBy w' none) (first | exact grownBy_drew (grownBy_drew hgr) | assumption) (first | (go_at_call 111; refine (cu' _).mono ?_; rintro e w2 ⟨rfl, rfl⟩))
        have hSv : Hid (∀ S, S = movU N t k → movU N t (k + 1) = if gap p q ≤ S then S else gap p q) := fun S h => by rw [h]; exact hS.out
        clear hS
        generalize hU : movU N t k = U at *
        by_cases hpq : p ≤ q
        · by_cases hmx : q - p ≤ U
          all_goals
            go_wp2
          all_goals
            go_roundw
            case rel => exact ⟨k + 1, by omega, by go_num, by rw [hSv.out U rfl]; unfold gap; refine congrArg (Value.int .i64) ?_; (repeat' split) <;> omega, grownBy_drew (grownBy_drew hgr)⟩
            case measure => simp [intOf]; omega
        · by_cases hmx : p - q ≤ U
          all_goals
            go_wp2
          all_goals
            go_roundw
            case rel => exact ⟨k + 1, by omega, by go_num, by rw [hSv.out U rfl]; unfold gap; refine congrArg (Value.int .i64) ?_; (repeat' split) <;> omega, grownBy_drew (grownBy_drew hgr)⟩
            case measure => simp [intOf]; omega
    · obtain rfl : k = cub N := by omega
      go_wp2
      go_ret
      exact ⟨rfl, hgr⟩

theorem smov_any (n : Int) (s : ByteArray) (w : World) :
    Calls Tryz.prog 71 #[.int .i64 n, .string s] w fun e w' => e = .returned (.int .i64 (movI n (bl s))) ∧ w.grownBy w' none := by
  cases hi : inB n 1 6
  · rw [movI_o hi]; exact smov_no n s w (leastI_o hi)
  · cases ho : fOf (bl s) with
    | none => rw [movI_n ho]; exact smov_no n s w (leastI_n ho)
    | some t =>
      obtain ⟨N, rfl, hN⟩ := nat_of hi
      rw [movI_t ho hi]
      exact smov_yes N hN s w ho

end Go.Proofs.YtlnffpofbfigaaaGreatDoor

/-
  A row of integers that a loop appends to: the call's own slice.
-/
namespace Go.Proofs.YtlnffpofbfigaaaGreatDoor
open Go.RowKit

theorem infoInt : (Tryz.prog.info? 3).map (fun i => (i.zero, i.size, i.bytes)) = some (some (.int .i64 0), 1, 8) := by kernel_rfl

/-- The row so far, by the call's own slice. -/
def RowRel (zs : List Int) (base : Nat) (w : World) (v : Value) (wr : World) : Prop := ∃ a cap, v = .slice a zs.length cap ∧ OwnI wr base a cap zs ∧ w.grownBy wr none

theorem row_more {w wr w1 : World} {v v' : Value} {zs : List Int} {j : Int} (hn : wr.ownsRow w.heap.size 3 1 v zs.length (zs.map (Value.int .i64))) (hg : w.grownBy wr none)
    (ho : w1.ownsRow w.heap.size 3 1 v' (zs.length + 1) (zs.map (Value.int .i64) ++ [.int .i64 j])) (hgr : wr.grownBy w1 v.ownBlock) : RowRel (zs ++ [j]) w.heap.size w v' w1 := by
  have e : zs.map (Value.int .i64) ++ [Value.int .i64 j] = (zs ++ [j]).map (Value.int .i64) := by simp
  rw [e] at ho
  obtain ⟨a, cap, rfl, _, hO⟩ := ownI_shape ho
  exact ⟨a, cap, rfl, hO, grownBy_row hg hn (Nat.le_refl _) hgr⟩

theorem grow_box {wr w1 : World} {o : Obj} {v : Value} (h : (wr.alloc o).grownBy w1 v.ownBlock) : wr.grownBy w1 v.ownBlock :=
  grownBy_trans (World.grownBy_alloc wr o _) h

theorem OwnI.made (w : World) : OwnI (w.alloc (.cells #[] 3)) w.heap.size (some ⟨w.heap.size, 0, none⟩) 0 [] :=
  World.ownsRow_lit w #[] 0 (Nat.le_refl _) (by unfold maxLen; omega) rfl

end Go.Proofs.YtlnffpofbfigaaaGreatDoor

/-
  Sets of values of a chain as numbers: closed sets, what a set makes, chains within, their steps. No program is named.
-/
namespace Go.Proofs.YtlnffpofbfigaaaGreatDoor

def bit (s v : Nat) : Bool := s / 2 ^ v % 2 == 1
def folN (n a b : Nat) : Nat := if n - a + b ≤ n then n - a + b else n
def upB (k : Nat) (p : Nat → Bool) : Bool := (List.range k).all p
theorem upB_of {k : Nat} {p : Nat → Bool} (h : upB k p = true) {j : Nat} (hj : j < k) : p j = true := by
  unfold upB at h
  rw [List.all_eq_true] at h
  exact h j (List.mem_range.2 hj)
theorem upB_mk {k : Nat} {p : Nat → Bool} (h : ∀ j, j < k → p j = true) : upB k p = true := by
  unfold upB
  rw [List.all_eq_true]
  exact fun j hj => h j (List.mem_range.1 hj)
theorem upB_no {k : Nat} {p : Nat → Bool} {j : Nat} (hj : j < k) (h : p j = false) : upB k p = false := by
  cases e : upB k p
  · rfl
  · rw [upB_of e hj] at h; cases h

/-- Whether what tells that b follows of a is in it, if both are. -/
def folB (n s a b : Nat) : Bool := !(bit s a && bit s b) || bit s (folN n a b)
def closN (n s : Nat) : Bool := bit s 0 && upB (n + 1) fun a => upB (n + 1) fun b => folB n s a b
/-- The set with what follows, over the first places of the pairs. -/
def nextN (n s : Nat) : Nat → Nat
  | 0 => s
  | k + 1 => if bit s (k / (n + 1)) && bit s (k % (n + 1)) then nextN n s k ||| 2 ^ folN n (k / (n + 1)) (k % (n + 1)) else nextN n s k
def stepN (n s : Nat) : Nat := nextN n s ((n + 1) * (n + 1))
def madeF : Nat → Nat → Nat → Nat
  | 0, _, s => s
  | k + 1, n, s => if closN n s then s else madeF k n (stepN n s)
def madeN (n s : Nat) : Nat := madeF 8 n (s ||| 1)
def withN (n m : Nat) : Nat → Nat
  | 0 => 0
  | v + 1 => withN n m v ||| 2 ^ (v * n / m)
def withinN (n m : Nat) : Nat := withN n m (m + 1)
def setsTo (n : Nat) : Nat → List Nat
  | 0 => []
  | s + 1 => if closN n s then setsTo n s ++ [s] else setsTo n s
def setsN (n : Nat) : List Nat := setsTo n (2 ^ (n + 1))
def cntN (s : Nat) : Nat → Nat
  | 0 => 0
  | v + 1 => cntN s v + s / 2 ^ v % 2
def stpN (n s : Nat) : Nat := cntN s (n + 1) - 1
def divsN (n : Nat) : List Nat := (List.range (n + 1)).filter fun d => 1 ≤ d && n % d == 0
/-- The steps of a value in lowest terms. -/
def lowN (n v : Nat) : Nat := n / Nat.gcd n v

def tabN (p : Nat → Nat → Bool) : Bool := [1, 2, 3, 4, 5, 6].all fun n => (List.range (2 ^ (n + 1))).all (p n)
theorem tab_of {p : Nat → Nat → Bool} (h : tabN p = true) {n s : Nat} (hn : 1 ≤ n ∧ n ≤ 6) (hs : s < 2 ^ (n + 1)) : p n s = true := by
  unfold tabN at h
  rw [List.all_eq_true] at h
  have h1 := h n (by simp; omega)
  rw [List.all_eq_true] at h1
  exact h1 s (List.mem_range.2 hs)

def setsL : Nat → List Nat
  | 1 => [3]
  | 2 => [5, 7]
  | 3 => [9, 15]
  | 4 => [17, 21, 31]
  | 5 => [33, 63]
  | 6 => [65, 73, 85, 127]
  | _ => []
theorem sets_lit {n : Nat} (hn : 1 ≤ n ∧ n ≤ 6) : setsN n = setsL n := by
  have h : [1, 2, 3, 4, 5, 6].all (fun n => setsN n == setsL n) = true := by decide +kernel
  rw [List.all_eq_true] at h
  exact eq_of_beq (h n (by simp; omega))

/-- All signs of two values. -/
def signsB (n s a b : Nat) : Bool := !(bit s a && bit s b) || (bit s (n - a) && bit s (min n (a + b)) && bit s (a + b - n) && bit s (min a b) && bit s (max a b))
theorem clos_signs : tabN (fun n s => !closN n s || (bit s n && upB (n + 1) fun a => upB (n + 1) fun b => signsB n s a b)) = true := by decide +kernel
/-- A round brings more, as long as it isn't closed. -/
theorem step_more : tabN (fun n s => !bit s 0 || closN n s || (decide (s < stepN n s) && decide (stepN n s < 2 ^ (n + 1)) && bit (stepN n s) 0)) = true := by decide +kernel
theorem made_step : tabN (fun n s => !bit s 0 || closN n s || madeF 8 n (stepN n s) == madeF 8 n s) = true := by decide +kernel
theorem made_stop : tabN (fun n s => !closN n s || madeF 8 n s == s) = true := by decide +kernel
theorem made_ok : tabN (fun n s => closN n (madeN n s) && (madeN n s &&& s == s) && decide (madeN n s < 2 ^ (n + 1)) && (setsL n).all (fun t => !(t &&& s == s) || (t &&& madeN n s == madeN n s))) = true := by decide +kernel
theorem made_one : tabN (fun n v => !decide (v ≤ n) || madeN n (2 ^ v) == withinN n (lowN n v)) = true := by decide +kernel
theorem within_ok : tabN (fun n m => !(decide (1 ≤ m) && decide (m ≤ n) && n % m == 0) || (closN n (withinN n m) && decide (withinN n m < 2 ^ (n + 1)) && stpN n (withinN n m) == m && withinN n n == 2 ^ (n + 1) - 1)) = true := by decide +kernel
theorem sets_ok : tabN (fun n s => !closN n s || (decide (1 ≤ stpN n s) && decide (stpN n s ≤ n) && n % stpN n s == 0 && withinN n (stpN n s) == s)) = true := by decide +kernel
theorem sets_many : [1, 2, 3, 4, 5, 6].all (fun n => (setsL n).length == (divsN n).length) = true := by decide +kernel

end Go.Proofs.YtlnffpofbfigaaaGreatDoor

/-
  Sets of values of a chain as the program makes them: the values of a set in their order, what follows within a set, joined. No program is named.
-/
namespace Go.Proofs.YtlnffpofbfigaaaGreatDoor

/-- The values of a set, ascending, each at most n. -/
def valsA (n s : Nat) : List (Fin (n + 1)) := (List.finRange (n + 1)).filter fun v => bit s v.1
def inF (n a acc : Nat) (bs : List (Fin (n + 1))) : Nat := bs.foldl (fun r b => r ||| 2 ^ folN n a b.1) acc
def outF (n : Nat) (vs ys : List (Fin (n + 1))) : Nat := ys.foldl (fun r a => inF n a.1 r vs) 0
def folsN (n s : Nat) : Nat := outF n (valsA n s) (valsA n s)
theorem inF_snoc (n a acc : Nat) (pre : List (Fin (n + 1))) (b : Fin (n + 1)) : inF n a acc (pre ++ [b]) = inF n a acc pre ||| 2 ^ folN n a b.1 := by simp [inF]
theorem outF_snoc (n : Nat) (vs pre : List (Fin (n + 1))) (a : Fin (n + 1)) : outF n vs (pre ++ [a]) = inF n a.1 (outF n vs pre) vs := by simp [outF]
theorem folN_le (n a b : Nat) : folN n a b ≤ n := by unfold folN; split <;> omega
theorem or_lt {k a b : Nat} (ha : a < 2 ^ k) (hb : b < 2 ^ k) : a ||| b < 2 ^ k := Nat.or_lt_two_pow ha hb
theorem inF_lt {n a acc : Nat} (hc : acc < 2 ^ (n + 1)) : ∀ bs : List (Fin (n + 1)), inF n a acc bs < 2 ^ (n + 1) := by
  intro bs
  unfold inF
  induction bs generalizing acc with
  | nil => exact hc
  | cons b bs ih => exact ih (or_lt hc (Nat.pow_lt_pow_right (by omega) (by have := folN_le n a b.1; omega)))
theorem outF_lt (n : Nat) (vs : List (Fin (n + 1)))   : ∀ ys, outF n vs ys < 2 ^ (n + 1) := by
  intro ys
  unfold outF
  have h0 : (0 : Nat) < 2 ^ (n + 1) := Nat.two_pow_pos _
  generalize (0 : Nat) = acc at h0
  induction ys generalizing acc with
  | nil => exact h0
  | cons a ys ih => exact ih _ (inF_lt h0 vs)
theorem folsN_lt (n s : Nat) : folsN n s < 2 ^ (n + 1) := outF_lt n _ _

/-- The lowest value of a set, and the set without it. -/
theorem vals_tab : tabN (fun n s => s == 0 || (match valsA n s with | k :: r => k.1 == Lib.ctz 64 s && r == valsA n (s &&& (s - 1)) | [] => false) && decide (s &&& (s - 1) < s)) = true := by decide +kernel
theorem vals_zero (n : Nat) (hn : 1 ≤ n ∧ n ≤ 6) : valsA n 0 = [] := by
  have h : [1, 2, 3, 4, 5, 6].all (fun n => valsA n 0 == []) = true := by decide +kernel
  rw [List.all_eq_true] at h
  exact eq_of_beq (h n (by simp; omega))
theorem vals_step {n s : Nat} (hn : 1 ≤ n ∧ n ≤ 6) (hs : s < 2 ^ (n + 1)) (h0 : s ≠ 0) : ∃ k : Fin (n + 1), valsA n s = k :: valsA n (s &&& (s - 1)) ∧ k.1 = Lib.ctz 64 s ∧ s &&& (s - 1) < s := by
  have h := tab_of vals_tab hn hs
  simp only [Bool.or_eq_true, beq_iff_eq, h0, false_or, Bool.and_eq_true, decide_eq_true_eq] at h
  obtain ⟨h1, h2⟩ := h
  cases e : valsA n s with
  | nil => rw [e] at h1; cases h1
  | cons k r =>
    rw [e] at h1
    simp only [Bool.and_eq_true, beq_iff_eq] at h1
    exact ⟨k, by rw [h1.2], h1.1, h2⟩
theorem clos_fols : tabN (fun n s => closN n s == (bit s 0 && (folsN n s ||| s == s))) = true := by decide +kernel
theorem step_fols : tabN (fun n s => s ||| folsN n s == stepN n s || !bit s 0) = true := by decide +kernel

/-- A set that may be asked. -/
def okS (n s : Int) : Bool := inB n 1 6 && decide (0 ≤ s) && decide (s.toNat < 2 ^ (n.toNat + 1))
def closI (n s : Int) : Bool := okS n s && closN n.toNat s.toNat
def madeI (n s : Int) : Int := if okS n s then (madeN n.toNat s.toNat : Int) else -1
def withI (n m : Int) : Int := if inB n 1 6 && inB m 1 6 && n.toNat % m.toNat == 0 then (withinN n.toNat m.toNat : Int) else -1
def setsI (n : Int) : List Int := if inB n 1 6 then (setsL n.toNat).map Int.ofNat else []
def stpI (n s : Int) : Int := if closI n s then (stpN n.toNat s.toNat : Int) else -1

/-- Whether one set lies within another. -/
def subN (p s : Nat) : Bool := p ||| s == s
theorem sub_tab : ((List.range 128).all fun p => (List.range 128).all fun s => (subN p s == (bits .andNot .i64 (p : Int) (s : Int) == 0))) = true := by decide +kernel
theorem sub_of {p s : Nat} (hp : p < 128) (hs : s < 128) : (bits .andNot .i64 (p : Int) (s : Int) == 0) = subN p s := by
  have h := sub_tab
  rw [List.all_eq_true] at h
  have h1 := h p (List.mem_range.2 hp)
  rw [List.all_eq_true] at h1
  exact (eq_of_beq (h1 s (List.mem_range.2 hs))).symm
theorem or64 {a b : Nat} (ha : a < 2 ^ 62) (hb : b < 2 ^ 62) : bits .or .i64 (a : Int) (b : Int) = ((a ||| b : Nat) : Int) :=
  (bits_nat .i64 62 (by decide) (fun n h0 h1 => by rw [IntKind.wrap_i64]; omega) a b ha hb).2
theorem and64 {a b : Nat} (ha : a < 2 ^ 62) (hb : b < 2 ^ 62) : bits .and .i64 (a : Int) (b : Int) = ((a &&& b : Nat) : Int) :=
  (bits_nat .i64 62 (by decide) (fun n h0 h1 => by rw [IntKind.wrap_i64]; omega) a b ha hb).1
theorem pow_le7 {n : Nat} (hn : n ≤ 6) : 2 ^ (n + 1) ≤ 128 := by
  have : 2 ^ (n + 1) ≤ 2 ^ 7 := Nat.pow_le_pow_right (by omega) (by omega)
  omega

end Go.Proofs.YtlnffpofbfigaaaGreatDoor

/-
  Rows of values of a chain that may be said of one letter, as lists of numbers: they are closed under following; whatever holds of the row of all values and of noughts and is kept by following holds of all of them, for 1 to 4 steps; the row of a formula is one of them. No program is named.
-/
namespace Go.Proofs.YtlnffpofbfigaaaGreatDoor

def digs (b : Nat) : Nat → Nat → List Nat
  | 0, _ => []
  | k + 1, c => digs b k (c / b) ++ [c % b]
def codeR (b : Nat) (r : List Nat) : Nat := r.foldl (fun s d => s * b + d) 0
theorem codeR_snoc (b : Nat) (r : List Nat) (d : Nat) : codeR b (r ++ [d]) = codeR b r * b + d := by simp [codeR]
theorem digs_len (b : Nat) : ∀ k c, (digs b k c).length = k := by
  intro k
  induction k with
  | zero => intro c; rfl
  | succ k ih => intro c; simp [digs, ih]
theorem digs_code {b : Nat} : ∀ k (r : List Nat), r.length = k → (∀ d ∈ r, d < b) → digs b k (codeR b r) = r ∧ codeR b r < b ^ k := by
  intro k
  induction k with
  | zero =>
    intro r hr _
    have : r = [] := List.length_eq_zero_iff.1 hr
    subst this
    exact ⟨rfl, Nat.zero_lt_one⟩
  | succ k ih =>
    intro r hr hd
    have hne : r ≠ [] := by rintro rfl; simp at hr
    obtain ⟨l, d, rfl⟩ : ∃ l d, r = l ++ [d] := ⟨r.dropLast, r.getLast hne, (List.dropLast_concat_getLast hne).symm⟩
    have hl : l.length = k := by simpa using hr
    have hdl : d < b := hd d (by simp)
    obtain ⟨h1, h2⟩ := ih l hl fun x hx => hd x (by simp [hx])
    rw [codeR_snoc]
    refine ⟨?_, ?_⟩
    · show digs b k ((codeR b l * b + d) / b) ++ [(codeR b l * b + d) % b] = _
      rw [Nat.mul_comm, Nat.mul_add_div (by omega), Nat.div_eq_of_lt hdl, Nat.add_zero, Nat.mul_add_mod, Nat.mod_eq_of_lt hdl, h1]
    · rw [Nat.pow_succ]
      have := Nat.mul_le_mul_right b (show codeR b l + 1 ≤ b ^ k by omega)
      rw [Nat.add_mul] at this
      omega

/-- At each place how true it is that the value of the second row follows of that of the first one. -/
def folR (n : Nat) (x y : List Nat) : List Nat := List.zipWith (folN n) x y
def sayR (n : Nat) (r : List Nat) : Bool := r.length == n + 1 && (List.range (n + 1)).all fun v => decide (r.getD v 0 ≤ n) && r.getD v 0 % Nat.gcd v n == 0
def ownR (n : Nat) : List Nat := List.range (n + 1)
def zerR (n : Nat) : List Nat := List.replicate (n + 1) 0
theorem sayR_of {n : Nat} {r : List Nat} (h : sayR n r = true) : r.length = n + 1 ∧ ∀ v, v ≤ n → r.getD v 0 ≤ n ∧ Nat.gcd v n ∣ r.getD v 0 := by
  unfold sayR at h
  simp only [Bool.and_eq_true, beq_iff_eq, List.all_eq_true, List.mem_range, decide_eq_true_eq] at h
  exact ⟨h.1, fun v hv => ⟨(h.2 v (by omega)).1, Nat.dvd_of_mod_eq_zero (h.2 v (by omega)).2⟩⟩
theorem sayR_mk {n : Nat} {r : List Nat} (hl : r.length = n + 1) (h : ∀ v, v ≤ n → r.getD v 0 ≤ n ∧ Nat.gcd v n ∣ r.getD v 0) : sayR n r = true := by
  unfold sayR
  simp only [Bool.and_eq_true, beq_iff_eq, List.all_eq_true, List.mem_range, decide_eq_true_eq]
  exact ⟨hl, fun v hv => ⟨(h v (by omega)).1, Nat.mod_eq_zero_of_dvd (h v (by omega)).2⟩⟩
theorem folR_len {n : Nat} {x y : List Nat} (hx : x.length = n + 1) (hy : y.length = n + 1) : (folR n x y).length = n + 1 := by unfold folR; rw [List.length_zipWith, hx, hy, Nat.min_self]
theorem folR_at {n : Nat} {x y : List Nat} (hx : x.length = n + 1) (hy : y.length = n + 1) {v : Nat} (hv : v ≤ n) : (folR n x y).getD v 0 = folN n (x.getD v 0) (y.getD v 0) := by
  unfold folR
  rw [List.getD_eq_getElem?_getD, List.getElem?_zipWith, List.getElem?_eq_getElem (by omega), List.getElem?_eq_getElem (by omega), List.getD_eq_getElem?_getD, List.getElem?_eq_getElem (by omega), List.getD_eq_getElem?_getD, List.getElem?_eq_getElem (by omega)]
  rfl
theorem fol_dvd {n g a b : Nat} (hg : g ∣ n) (h1 : g ∣ a) (h2 : g ∣ b) : g ∣ folN n a b := by
  unfold folN
  split
  · exact Nat.dvd_add (Nat.dvd_sub hg h1) h2
  · exact hg
/-- Sayable rows are closed under following. -/
theorem say_fol {n : Nat} {x y : List Nat} (hx : sayR n x = true) (hy : sayR n y = true) : sayR n (folR n x y) = true := by
  obtain ⟨lx, ax⟩ := sayR_of hx
  obtain ⟨ly, ay⟩ := sayR_of hy
  refine sayR_mk (folR_len lx ly) fun v hv => ?_
  rw [folR_at lx ly hv]
  exact ⟨folN_le n _ _, fol_dvd (Nat.gcd_dvd_right v n) (ax v hv).2 (ay v hv).2⟩
theorem say_own (n : Nat) : sayR n (ownR n) = true := sayR_mk (by simp [ownR]) fun v hv => by
  have : (ownR n).getD v 0 = v := by unfold ownR; rw [List.getD_eq_getElem?_getD, List.getElem?_range (by omega)]; rfl
  rw [this]
  exact ⟨hv, Nat.gcd_dvd_left v n⟩
theorem say_zer (n : Nat) : sayR n (zerR n) = true := sayR_mk (by simp [zerR]) fun v hv => by
  have : (zerR n).getD v 0 = 0 := by unfold zerR; rw [List.getD_eq_getElem?_getD, List.getElem?_replicate]; split <;> rfl
  rw [this]
  exact ⟨Nat.zero_le _, Nat.dvd_zero _⟩

/-! Each sayable row is made of the two first ones: for 1 to 4 steps, step by step: the codes of the two rows and of the new one. -/
def certL1 : List (Nat × Nat × Nat) := [(1, 1, 3), (1, 0, 2)]
def certL2 : List (Nat × Nat × Nat) := [(5, 5, 26), (5, 0, 21), (21, 5, 8), (5, 21, 24), (8, 5, 23), (8, 0, 18), (24, 0, 2), (23, 0, 3), (24, 18, 20), (23, 3, 6)]
def certL3 : List (Nat × Nat × Nat) := [(27, 27, 255), (27, 0, 228), (228, 27, 47), (27, 228, 248), (47, 27, 235), (47, 0, 208), (47, 228, 244), (228, 47, 63), (248, 27, 31), (27, 248, 252), (248, 0, 7), (235, 0, 20), (47, 235, 251), (248, 235, 239), (47, 208, 224), (248, 208, 215), (244, 0, 11), (244, 208, 219), (63, 0, 192), (31, 208, 240), (63, 31, 223), (252, 0, 3), (252, 228, 231), (252, 208, 211), (252, 244, 247), (244, 7, 15), (63, 7, 199), (235, 20, 40), (63, 20, 212), (252, 20, 23), (251, 0, 4), (251, 228, 232), (251, 20, 24), (239, 27, 43), (239, 0, 16), (239, 20, 36), (252, 224, 227), (215, 20, 60), (63, 11, 203), (219, 20, 56), (252, 192, 195), (251, 192, 196), (252, 240, 243), (240, 192, 207), (223, 27, 59), (223, 0, 32), (223, 7, 39), (223, 20, 52), (239, 3, 19), (223, 3, 35), (231, 20, 44), (231, 192, 216), (211, 192, 236), (247, 0, 8), (247, 20, 28), (247, 192, 200), (247, 212, 220), (223, 23, 55), (247, 4, 12), (223, 16, 48), (247, 196, 204), (207, 3, 51)]
def certL4 : List (Nat × Nat × Nat) := [(194, 194, 3124), (194, 0, 2930), (2930, 194, 374), (194, 2930, 3110), (374, 194, 2944), (374, 0, 2750), (374, 2930, 3055), (2930, 374, 499), (3110, 194, 199), (194, 3110, 3115), (3110, 0, 14), (2944, 0, 180), (374, 2944, 3069), (3110, 2944, 2949), (2750, 374, 624), (374, 2750, 3000), (3110, 2750, 2764), (3055, 194, 249), (3055, 0, 69), (3055, 2930, 2999), (3055, 2750, 2819), (499, 0, 2625), (499, 2750, 2875), (199, 194, 3119), (199, 0, 2925), (199, 2930, 3105), (199, 2750, 3050), (499, 199, 2824), (194, 3115, 3120), (3115, 0, 9), (3115, 2930, 2939), (3115, 2750, 2759), (3115, 3055, 3064), (3110, 14, 24), (3055, 14, 74), (499, 14, 2639), (3115, 14, 19), (2944, 180, 360), (499, 180, 2805), (3115, 180, 189), (3069, 0, 55), (3069, 2930, 2985), (3110, 3069, 3074), (3069, 180, 235), (2949, 194, 369), (2949, 0, 175), (2949, 180, 355), (624, 194, 2694), (624, 0, 2500), (624, 374, 2874), (624, 199, 2699), (624, 14, 2514), (624, 180, 2680), (3000, 0, 124), (3110, 3000, 3014), (3115, 3000, 3009), (3110, 2764, 2774), (499, 2764, 2889), (3115, 2764, 2769), (2764, 180, 490), (624, 249, 2749), (199, 69, 2994), (2949, 69, 244), (624, 69, 2569), (2999, 194, 319), (2999, 0, 125), (2999, 199, 324), (2999, 14, 139), (2999, 180, 305), (2819, 180, 485), (3115, 2625, 2634), (2949, 2625, 2800), (3115, 2875, 2884), (3119, 0, 5), (3119, 2930, 2935), (3119, 2750, 2755), (3119, 3055, 3060), (3119, 180, 185), (3119, 3000, 3005), (3119, 2625, 2630), (3119, 2875, 2880), (199, 2925, 3100), (3115, 2925, 2934), (3069, 2925, 2980), (3115, 3105, 3114), (3105, 3000, 3019), (3105, 2625, 2644), (3105, 2875, 2894), (3115, 3050, 3059), (2824, 194, 494), (2824, 0, 300), (2824, 14, 314), (2824, 180, 480), (3120, 0, 4), (3120, 2750, 2754), (3120, 180, 184), (3120, 3000, 3004), (3120, 2625, 2629), (3120, 2875, 2879), (3120, 2925, 2929), (3120, 3105, 3109), (3120, 3050, 3054), (3069, 9, 64), (624, 9, 2509), (2999, 9, 134), (2824, 9, 309), (2939, 180, 365), (2939, 2625, 2810), (2759, 180, 495), (3069, 2759, 2814), (2759, 2625, 2990), (3064, 0, 60), (3064, 180, 240), (3064, 2625, 2685), (499, 24, 2649), (624, 24, 2524), (249, 24, 2899), (2999, 24, 149), (624, 74, 2574), (2639, 180, 615), (624, 19, 2519), (2999, 19, 144), (624, 360, 2860), (360, 2764, 3024), (2764, 360, 620), (2824, 360, 610), (3120, 360, 364), (3064, 360, 370), (3120, 2805, 2809), (3064, 2805, 2865), (624, 189, 2689), (2824, 189, 489), (3069, 55, 110), (2949, 55, 230), (624, 55, 2555), (3120, 55, 59), (3064, 55, 115), (3120, 2985, 2989), (3064, 2985, 2995), (3074, 0, 50), (3074, 69, 119), (3074, 2819, 2869), (3074, 2625, 2675), (3074, 2925, 2975), (3074, 2805, 2855), (3074, 189, 239), (3074, 55, 105), (624, 235, 2735), (3064, 235, 245), (2824, 369, 619), (2949, 175, 350), (2824, 175, 475), (3120, 175, 179), (3074, 175, 225), (2824, 355, 605), (3120, 355, 359), (2694, 0, 430), (2694, 14, 444), (2694, 9, 439), (2694, 24, 449), (3074, 2694, 2744), (3000, 2500, 2624), (3119, 2500, 2505), (3120, 2500, 2504), (3064, 2500, 2560), (3074, 2500, 2550), (2874, 0, 250), (2874, 14, 264), (2874, 9, 259), (2874, 24, 274), (2874, 19, 269), (2874, 175, 425), (2699, 9, 434), (2699, 189, 614), (2699, 175, 600), (3074, 2514, 2564), (3120, 2680, 2684), (3064, 2680, 2740), (3074, 2680, 2730), (3014, 2500, 2610), (3009, 2805, 2870), (3009, 55, 120), (3009, 2500, 2615), (3009, 2680, 2745), (2774, 2500, 2850), (2774, 2514, 2864), (2749, 194, 569), (2749, 0, 375), (2749, 199, 574), (2749, 14, 389), (2749, 180, 555), (2749, 9, 384), (2749, 24, 399), (2749, 19, 394), (2749, 189, 564), (2749, 175, 550), (2994, 0, 130), (2994, 180, 310), (3074, 2569, 2619), (3120, 125, 129), (2749, 125, 500), (2994, 125, 255), (2749, 139, 514), (2994, 305, 435), (2774, 2634, 2984), (3120, 2800, 2804), (3119, 5, 10), (2939, 5, 190), (3064, 5, 65), (189, 5, 2940), (369, 5, 2760), (2749, 5, 380), (2994, 5, 135), (244, 5, 2885), (2569, 5, 560), (369, 2935, 3065), (3064, 2755, 2815), (369, 2755, 3010), (2994, 185, 315), (3119, 2630, 2635), (3064, 2630, 2690), (3120, 3100, 3104), (2934, 5, 195), (2934, 2755, 2945), (2934, 3005, 3070), (2934, 2630, 2820), (3114, 2500, 2510), (3114, 5, 15), (3114, 2755, 2765), (3114, 3005, 3015), (3114, 2630, 2640), (3114, 2880, 2890), (3019, 9, 114), (3019, 2500, 2605), (3019, 2634, 2739), (3059, 2500, 2565), (3059, 5, 70), (3059, 2630, 2695), (3120, 300, 304), (3120, 480, 484), (3074, 4, 54), (2874, 4, 254), (2699, 4, 429), (2774, 4, 354), (2749, 4, 379), (2569, 4, 559), (3019, 4, 109), (2894, 4, 234), (3019, 2754, 2859), (2699, 184, 609), (3004, 2500, 2620), (3074, 2629, 2679), (2774, 2629, 2979), (3019, 2629, 2734), (2929, 125, 320), (3109, 2500, 2515), (3109, 125, 140), (3109, 5, 20), (3109, 2755, 2770), (3109, 3005, 3020), (3109, 2630, 2645), (3109, 2880, 2895), (3054, 2500, 2570), (3074, 2509, 2559), (3019, 2509, 2614), (2749, 134, 509), (2649, 4, 479), (2524, 4, 604), (2899, 2500, 2725), (2899, 4, 229), (2899, 2629, 2854), (2749, 149, 524), (2574, 4, 554), (2749, 144, 519), (3024, 0, 100), (3024, 2500, 2600), (3024, 4, 104), (3024, 2629, 2729), (3024, 2509, 2609), (2809, 125, 440), (2989, 125, 260), (620, 50, 2554), (3109, 430, 445), (2989, 430, 565), (2744, 125, 505), (2744, 5, 385), (2624, 4, 504), (3109, 2505, 2520), (3024, 2504, 2604), (3109, 250, 265), (2864, 250, 510), (2929, 375, 570), (3109, 375, 390), (3109, 130, 145), (3109, 500, 515), (3109, 255, 270), (2984, 255, 395), (2984, 380, 520)]
def certL : Nat → List (Nat × Nat × Nat)
  | 1 => certL1
  | 2 => certL2
  | 3 => certL3
  | 4 => certL4
  | _ => []
/-- The codes so far, or none if a step isn't one. -/
def certGo (n : Nat) : List (Nat × Nat × Nat) → List Nat → Option (List Nat)
  | [], acc => some acc
  | (c, d, r) :: rest, acc => if acc.contains c && acc.contains d && folR n (digs (n + 1) (n + 1) c) (digs (n + 1) (n + 1) d) == digs (n + 1) (n + 1) r then certGo n rest (r :: acc) else none
def certB (n : Nat) : Bool := match certGo n (certL n) [codeR (n + 1) (ownR n), 0] with
  | some acc => digs (n + 1) (n + 1) (codeR (n + 1) (ownR n)) == ownR n && digs (n + 1) (n + 1) 0 == zerR n && (List.range ((n + 1) ^ (n + 1))).all fun c => !sayR n (digs (n + 1) (n + 1) c) || acc.contains c
  | none => false
set_option maxRecDepth 100000 in
theorem cert_ok : ([1, 2, 3, 4].all certB) = true := by decide +kernel
theorem certGo_all {n : Nat} {P : List Nat → Prop} (hf : ∀ x y, P x → P y → P (folR n x y)) : ∀ (l : List (Nat × Nat × Nat)) (acc out : List Nat), (∀ c ∈ acc, P (digs (n + 1) (n + 1) c)) → certGo n l acc = some out → ∀ c ∈ out, P (digs (n + 1) (n + 1) c) := by
  intro l
  induction l with
  | nil => intro acc out h e; cases e; exact h
  | cons p rest ih =>
    obtain ⟨c, d, r⟩ := p
    intro acc out h e
    unfold certGo at e
    split at e
    · rename_i hc
      simp only [Bool.and_eq_true, beq_iff_eq, List.contains_eq_mem, decide_eq_true_eq] at hc
      refine ih (r :: acc) out (fun x hx => ?_) e
      rcases List.mem_cons.1 hx with rfl | hx
      · rw [← hc.2]; exact hf _ _ (h c hc.1.1) (h d hc.1.2)
      · exact h x hx
    · cases e
/-- What holds of both first rows and is kept by following holds of each sayable row. -/
theorem say_least {n : Nat} (hn : 1 ≤ n ∧ n ≤ 4) {P : List Nat → Prop} (ho : P (ownR n)) (hz : P (zerR n)) (hf : ∀ x y, P x → P y → P (folR n x y)) {r : List Nat} (h : sayR n r = true) : P r := by
  have k := cert_ok
  rw [List.all_eq_true] at k
  have k1 := k n (by simp; omega)
  unfold certB at k1
  cases e : certGo n (certL n) [codeR (n + 1) (ownR n), 0] with
  | none => rw [e] at k1; cases k1
  | some acc =>
    rw [e] at k1
    simp only [Bool.and_eq_true, beq_iff_eq] at k1
    have hall := certGo_all (P := P) hf (certL n) _ acc (fun c hc => by
      simp only [List.mem_cons, List.not_mem_nil, or_false] at hc
      rcases hc with rfl | rfl
      · rw [k1.1.1]; exact ho
      · rw [k1.1.2]; exact hz) e
    obtain ⟨hl, hv⟩ := sayR_of h
    have hd : ∀ d ∈ r, d < n + 1 := fun d hd => by
      obtain ⟨i, hi, rfl⟩ := List.mem_iff_getElem.1 hd
      have := (hv i (by omega)).1
      rw [List.getD_eq_getElem?_getD, List.getElem?_eq_getElem hi] at this
      exact Nat.lt_succ_of_le this
    obtain ⟨q1, q2⟩ := digs_code (n + 1) r hl hd
    have k2 := k1.2
    rw [List.all_eq_true] at k2
    have k3 := k2 (codeR (n + 1) r) (List.mem_range.2 q2)
    rw [q1, h] at k3
    simp only [Bool.not_true, Bool.false_or, List.contains_eq_mem, decide_eq_true_eq] at k3
    have := hall _ k3
    rw [q1] at this
    exact this

/-- The row of a formula: its value of v alone lies among those that v makes. -/
theorem val_dvd {n v : Nat} (hn : 1 ≤ n ∧ n ≤ 6) (hv : v ≤ n) : ∀ t : Tr, ((Nat.gcd v n : Nat) : Int) ∣ t.val n v v v := by
  have h : thrB (n : Int) v v v = true := thrB_mk (vokB_t (by omega)) (vokB_t (by omega)) (vokB_t (by omega))
  have gn : ((Nat.gcd v n : Nat) : Int) ∣ (n : Int) := Int.natCast_dvd_natCast.2 (Nat.gcd_dvd_right v n)
  have gv : ((Nat.gcd v n : Nat) : Int) ∣ (v : Int) := Int.natCast_dvd_natCast.2 (Nat.gcd_dvd_left v n)
  intro t
  induction t with
  | lt x => cases x <;> exact gv
  | tru b =>
    cases b
    · exact Int.dvd_zero _
    · exact gn
  | neg x ih =>
    show _ ∣ notW n _
    rw [notW_t (val_ok h x)]
    exact Int.dvd_sub gn ih
  | bin g x y ihx ihy =>
    have hx := val_ok h x
    have hy := val_ok h y
    cases g
    · show _ ∣ folW n _ _
      rw [fol_raw hx hy]
      split
      · exact Int.dvd_add (Int.dvd_sub gn ihx) ihy
      · exact gn
    · show _ ∣ plusW n _ _
      rw [plus_raw hx hy]
      split
      · exact Int.dvd_add ihx ihy
      · exact gn
    · show _ ∣ timesW n _ _
      rw [times_raw hx hy]
      split
      · exact Int.dvd_sub (Int.dvd_add ihx ihy) gn
      · exact Int.dvd_zero _
    · show _ ∣ lessW n _ _
      rw [less_raw hx hy]
      split
      · exact ihx
      · exact ihy
    · show _ ∣ greatW n _ _
      rw [great_raw hx hy]
      split
      · exact ihy
      · exact ihx

/-- The values that v makes. -/
theorem made_gcd : ([1, 2, 3, 4, 5, 6].all fun n => (List.range (n + 1)).all fun v => (List.range (n + 1)).all fun x => bit (madeN n (2 ^ v)) x == (x % Nat.gcd v n == 0)) = true := by decide +kernel
/-- How many rows may be said. -/
def cntS (n : Nat) : Nat → Nat
  | 0 => 1
  | v + 1 => cntS n v * (n / Nat.gcd v n + 1)
def sayN (n : Nat) : Nat := cntS n (n + 1)
theorem say_count : ([1, 2, 3, 4, 5, 6].map sayN) = [4, 12, 64, 300, 5184, 9408] := by decide +kernel

end Go.Proofs.YtlnffpofbfigaaaGreatDoor

/-
  The model's RowSaid, SayableOk, CountSayable. No condition but that a row which was handed over can be read.
-/
namespace Go.Proofs.YtlnffpofbfigaaaGreatDoor
open Go.RowKit

def saidTo (N : Nat) (t : Tr) (k : Nat) : List Int := (List.range k).map fun (v : Nat) => t.val N (v : Int) v v
theorem saidTo_len (N : Nat) (t : Tr) (k : Nat) : (saidTo N t k).length = k := by unfold saidTo; simp
theorem saidTo_next (N : Nat) (t : Tr) (k : Nat) : saidTo N t (k + 1) = saidTo N t k ++ [t.val N k k k] := by unfold saidTo; rw [List.range_succ, List.map_append]; rfl
theorem saidTo_at (N : Nat) (t : Tr) {k v : Nat} (h : v < k) : (saidTo N t k).getD v 0 = t.val N v v v := by unfold saidTo; simp [List.getD_eq_getElem?_getD, h]
def saidL (n : Int) (l : List UInt8) : List Int :=
  match fOf l with
  | some t => if inB n 1 6 = true then saidTo n.toNat t (n.toNat + 1) else []
  | none => []
theorem saidL_n {n : Int} {l : List UInt8} (h : fOf l = none) : saidL n l = [] := by unfold saidL; rw [h]
theorem saidL_o {n : Int} {l : List UInt8} (h : inB n 1 6 = false) : saidL n l = [] := by unfold saidL; rw [h]; cases fOf l <;> rfl
theorem saidL_t {N : Nat} {l : List UInt8} {t : Tr} (h : fOf l = some t) (hi : inB N 1 6 = true) : saidL N l = saidTo N t (N + 1) := by unfold saidL; rw [h]; simp only [hi]; rfl

def SaRel (N : Nat) (t : Tr) (w : World) (v i : Value) (wr : World) : Prop :=
  ∃ k : Nat, k ≤ N + 1 ∧ i = .int .i64 k ∧ wr.ownsRow w.heap.size 3 1 v (saidTo N t k).length ((saidTo N t k).map (Value.int .i64)) ∧ w.grownBy wr none

theorem ssaid_no (n : Int) (s : ByteArray) (w : World) (h : leastI n (bl s) = -1) :
    Calls Tryz.prog 72 #[.int .i64 n, .string s] w (IntsPost [] w) := by
  have c1 := fun w => sleast_any n s w
  rw [h] at c1
  clear h
  have hO := Lib.hid (OwnI.made w)
  by_cases h0 : 0 ≤ n
  · go_enter Tryz.func72, Tryz.ntmps72
    go_wp2_with fail
    go_loopw [5, 6] (fun v i wr => v = .slice (some ⟨w.heap.size, 0, none⟩) 0 0 ∧ i = .int .i64 0 ∧ wr = w.alloc (.cells #[] 3)) (fun _ _ _ => 0)
    case atStart => exact ⟨rfl, rfl, rfl⟩
    case round =>
      obtain ⟨rfl, rfl, rfl⟩ := hrel
      go_wp2_with fail
      refine (c1 _).mono ?_
      rintro e w1 ⟨rfl, g1⟩
      clear c1
      go_wp2_with fail
      go_ret
      exact ⟨_, _, rfl, hO.out.kept g1, grownBy_trans (World.grownBy_alloc _ _ none) g1⟩
  · clear c1
    go_enter Tryz.func72, Tryz.ntmps72
    go_wp2_with fail
    go_loopw [5, 6] (fun v i wr => v = .slice (some ⟨w.heap.size, 0, none⟩) 0 0 ∧ i = .int .i64 0 ∧ wr = w.alloc (.cells #[] 3)) (fun _ _ _ => 0)
    case atStart => exact ⟨rfl, rfl, rfl⟩
    case round =>
      obtain ⟨rfl, rfl, rfl⟩ := hrel
      go_wp2_with fail
      go_ret
      exact ⟨_, _, rfl, hO.out, World.grownBy_alloc _ _ none⟩

set_option maxRecDepth 100000 in
set_option maxHeartbeats 4000000 in
theorem ssaid_yes (N : Nat) (hN : 1 ≤ N ∧ N ≤ 6) (s : ByteArray) (w : World) {t : Tr} (ho : fOf (bl s) = some t) :
    Calls Tryz.prog 72 #[.int .i64 N, .string s] w (IntsPost (saidTo N t (N + 1)) w) := by
  obtain ⟨i0, hi, hz0, hz1, hz2⟩ := info_parts infoInt
  have c1 := fun w => sleast_any N s w
  rw [leastI_t ho (inB_nat hN)] at c1
  have l0 : 0 ≤ lowU N t (cub N) := by have := vokB_of (lowU_ok hN t (cub N)); omega
  obtain ⟨hs, hl⟩ := fOf_some ho
  have hsz : s.size ≤ 1048576 := by rw [bl_size, hs]; omega
  have cv : Hid (∀ (v : Nat), v ≤ N → ∀ (w : World), Calls Tryz.prog 111 #[.int .i64 N, .string s, .int .i64 v, .int .i64 v, .int .i64 v] w fun e w' => e = .returned (.int .i64 (t.val N v v v)) ∧ w = w') := fun v hv w => sv_all (thrB_mk (vokB_t (by omega)) (vokB_t (by omega)) (vokB_t (by omega))) t s w hs hsz
  clear ho hs hl hsz
  generalize lowU N t (cub N) = L at *
  go_enter Tryz.func72, Tryz.ntmps72
  go_wp2_with fail
  go_loopw [5, 6] (fun v i wr => SaRel N t w v i wr) (fun _ i _ => N + 1 - (intOf i).toNat)
  case atStart => exact ⟨0, by omega, rfl, OwnI.made w, World.grownBy_alloc w _ none⟩
  case round =>
    obtain ⟨k, hk, rfl, hown, hgr⟩ := hrel
    by_cases hlt : k ≤ N
    · have c2 := cv.out k hlt
      have hlen := saidTo_len N t k
      have hnx := Lib.hid (saidTo_next N t k)
      go_wp2_with fail
      refine (c1 _).mono ?_
      rintro e w1 ⟨rfl, g1⟩
      replace hown := World.ownsRow.kept hown g1 (by cases Value.ownBlock _ <;> simp)
      replace hgr := grownBy_trans hgr g1
      clear g1
      generalize t.val N k k k = V at *
      go_wp2_with (first
        | (go_at_call 111; refine (c2 _).mono ?_; rintro e w2 ⟨rfl, rfl⟩)
        | (at_builtin; refine wpList_append_own _ rfl _ _ 102 rfl w.heap.size 3 i0 (.int .i64 0) 1 8 Tryz.underlying102 hi hz0 hz1 hz2 rfl (by decide) _ _ _ rfl (World.ownsRow.alloc hown _) ⟨w1.heap.size, 0, none⟩ 1 1 [.int .i64 V] rfl rfl ?c1 ?c2 ?c3 ?c4 ?c5 ?_))
      case c1 =>
        intro j u hj
        match j, hj with
        | 0, hj => simp at hj; subst hj; simp [Addr.add]
      case c2 => intro u hu; simp at hu; subst hu; rfl
      case c3 => unfold maxLen; omega
      case c4 => omega
      case c5 => have := hgr.size; simp; omega
      intro v' w3 hown' hgrow _
      have hA := World.ownsRow.alloc hown (.cells #[.int .i64 V] 3)
      have hG := Lib.hid (grownBy_row (grownBy_trans hgr (World.grownBy_alloc w1 (.cells #[.int .i64 V] 3) none)) hA (Nat.le_refl _) hgrow)
      have Ho : Hid (w3.ownsRow w.heap.size 3 1 v' (saidTo N t (k + 1)).length ((saidTo N t (k + 1)).map (Value.int .i64))) := by
        unfold Hid
        rw [hnx.out]
        simpa [saidTo_len] using hown'
      clear hown hown' hgrow hA hgr hlen
      go_wp2
      go_roundw
      case rel => exact ⟨k + 1, by omega, by go_num, Ho.out, hG.out⟩
      case measure => simp [intOf]; omega
    · obtain rfl : k = N + 1 := by omega
      obtain ⟨a, cap, rfl, _, hO⟩ := ownI_shape hown
      have HO := Lib.hid hO
      clear hown hO cv
      go_wp2_with fail
      go_ret
      exact ⟨a, cap, rfl, HO.out, hgr⟩

theorem ssaid_any (n : Int) (s : ByteArray) (w : World) :
    Calls Tryz.prog 72 #[.int .i64 n, .string s] w (IntsPost (saidL n (bl s)) w) := by
  cases hi : inB n 1 6
  · rw [saidL_o hi]; exact ssaid_no n s w (leastI_o hi)
  · cases ho : fOf (bl s) with
    | none => rw [saidL_n ho]; exact ssaid_no n s w (leastI_n ho)
    | some t =>
      obtain ⟨N, rfl, hN⟩ := nat_of hi
      rw [saidL_t ho hi]
      exact ssaid_yes N hN s w ho

/-! Rows that may be said. -/
def sayAt (n : Int) (xs : List Int) (v : Nat) : Bool := inB (xs.getD v 0) 0 n && (xs.getD v 0 % ((Nat.gcd v n.toNat : Nat) : Int) == 0)
def sayB (n : Int) (xs : List Int) : Bool := inB n 1 6 && (decide ((xs.length : Int) = n + 1) && (List.range xs.length).all fun v => sayAt n xs v)
theorem sayB_of {n : Int} {xs : List Int} (h : sayB n xs = true) : (1 ≤ n ∧ n ≤ 6) ∧ (xs.length : Int) = n + 1 ∧ ∀ v, v < xs.length → sayAt n xs v = true := by
  unfold sayB at h
  rw [Bool.and_eq_true, Bool.and_eq_true, List.all_eq_true] at h
  exact ⟨inB_of h.1, of_decide_eq_true h.2.1, fun v hv => h.2.2 v (List.mem_range.2 hv)⟩
theorem sayB_mk {n : Int} {xs : List Int} (h1 : 1 ≤ n ∧ n ≤ 6) (h2 : (xs.length : Int) = n + 1) (h3 : ∀ v, v < xs.length → sayAt n xs v = true) : sayB n xs = true := by
  unfold sayB
  rw [Bool.and_eq_true, Bool.and_eq_true, List.all_eq_true]
  exact ⟨inB_t h1, decide_eq_true h2, fun v hv => h3 v (List.mem_range.1 hv)⟩
theorem sayB_no {n : Int} {xs : List Int} {v : Nat} (hv : v < xs.length) (h : sayAt n xs v = false) : sayB n xs = false := by
  cases e : sayB n xs
  · rfl
  · have := (sayB_of e).2.2 v hv
    rw [h] at this; cases this
theorem sayB_f {n : Int} {xs : List Int} (h : ¬ (xs.length : Int) = n + 1) : sayB n xs = false := by
  cases e : sayB n xs
  · rfl
  · exact absurd (sayB_of e).2.1 h
theorem sayB_o {n : Int} {xs : List Int} (h : inB n 1 6 = false) : sayB n xs = false := by unfold sayB; rw [h]; rfl
def SyRel (n : Int) (xs : List Int) (w : World) (i : Value) (wr : World) : Prop := ∃ k : Nat, k ≤ xs.length ∧ i = .int .i64 k ∧ (∀ j, j < k → sayAt n xs j = true) ∧ w.grownBy wr none

end Go.Proofs.YtlnffpofbfigaaaGreatDoor

/-
  The answers to lines that ask, in plain terms.
-/
namespace Go.Proofs.YtlnffpofbfigaaaGreatDoor
open Go.RowKit

/-- The lines of one word that ask. -/
def askW : List (List UInt8) := [[115, 116, 101, 112, 115], [116, 101, 120, 116], [97, 108, 119, 97, 121, 115], [108, 101, 97, 115, 116], [97, 103, 97, 105, 110, 115, 116], [99, 104, 97, 105, 110, 115], [108, 101, 116, 116, 101, 114, 115], [109, 111, 118, 101, 115], [114, 111, 119]]
def yesA (b : Bool) : ByteArray := cond b ⟨#[121, 101, 115]⟩ ⟨#[110, 111]⟩
def whatA : ByteArray := ⟨#[119, 104, 97, 116]⟩
def noneA : ByteArray := ⟨#[110, 111, 110, 101]⟩
def rowA (l : List Int) : ByteArray := bs (rowT (l.map Int.toNat))
def agL (n : Int) (l : List UInt8) : List Int :=
  match agI n l with
  | some k => [tA n.toNat k, tB n.toNat k, tC n.toNat k]
  | none => []
/-- The answer to the question of a word. -/
def ansQ (n : Int) (l : List UInt8) : Nat → ByteArray
  | 0 => bs (decL n.toNat)
  | 1 => bs l
  | 2 => yesA (alwB n l)
  | 3 => vtext n (leastI n l)
  | 4 => rowA (agL n l)
  | 5 => rowA (chI l)
  | 6 => bs (decL (lsI l).toNat)
  | 7 => bs (decL (movI n l).toNat)
  | _ => rowA (saidL n l)
/-- .. to three numbers' texts behind at .. -/
def ansA (n : Int) (l x y z : List UInt8) : ByteArray :=
  if digI x < 0 ∨ digI y < 0 ∨ digI z < 0 then whatA
  else if valI n l (digI x) (digI y) (digI z) < 0 then noneA
  else vtext n (valI n l (digI x) (digI y) (digI z))
/-- .. to a line of more words, or of another one. -/
def ansO (n : Int) (l line : List UInt8) : ByteArray :=
  match cutL 32 line with
  | [f, x] => if f = [102, 114, 111, 109] ∧ isF x = true then yesA (folI n [x] l) else whatA
  | [a, x, y, z] => if a = [97, 116] then ansA n l x y z else whatA
  | _ => whatA
/-- .. to any line that is no deed. -/
def ansD (n : Int) (l line : List UInt8) : ByteArray := if line ∈ askW then ansQ n l (askW.idxOf line) else ansO n l line

theorem ansO_one {n : Int} {l line : List UInt8} (h : ∀ c ∈ line, c ≠ (32 : UInt8)) : ansO n l line = whatA := by
  unfold ansO
  rw [cutL_one h]
theorem ansD_q {n : Int} {l line : List UInt8} {q : Nat} (h : askW[q]? = some line) : ansD n l line = ansQ n l q := by
  have hm : line ∈ askW := List.mem_of_getElem? h
  unfold ansD
  rw [if_pos hm]
  congr 1
  have hq : q < 9 := (List.getElem?_eq_some_iff.1 h).1
  match q, hq, h with
  | 0, _, h => cases h; decide
  | 1, _, h => cases h; decide
  | 2, _, h => cases h; decide
  | 3, _, h => cases h; decide
  | 4, _, h => cases h; decide
  | 5, _, h => cases h; decide
  | 6, _, h => cases h; decide
  | 7, _, h => cases h; decide
  | 8, _, h => cases h; decide
theorem ansD_o {n : Int} {l line : List UInt8} (h : line ∉ askW) : ansD n l line = ansO n l line := by unfold ansD; rw [if_neg h]

end Go.Proofs.YtlnffpofbfigaaaGreatDoor

/-
  Cutting a text at a byte, a number's text read, the kind of deed that has a word: impl's own.
-/
namespace Go.Proofs.YtlnffpofbfigaaaGreatDoor
open Go.RowKit

/-- As long as a text may be that the library's numbers are read of. -/
def L48 : Nat := 281474976710656
theorem gr_below {w w' : World} (h : Below w.heap.size w w') : w.grownBy w' none := ⟨h.os, h.tape, h.output, h.size, fun k hk _ => h.block k hk⟩

theorem index1_any (l : List UInt8) (c : UInt8) (w : World) :
    Calls Tryz.prog 118 #[.string (bs l), .string ⟨#[c]⟩] w fun e w' => e = .returned (.int .i64 (Lib.indexB (bs l) ⟨#[c]⟩)) ∧ w' = w := by
  have h := Any.stringslite_Index_one Tryz.lays219 (bs l) c w
  rw [← Lib.index_one] at h
  exact h

def CutD (l : List UInt8) (c : UInt8) : Value := .tuple #[.string (bs (Lib.cut l [c]).1), .string (bs (Lib.cut l [c]).2.1), .bool (Lib.cut l [c]).2.2]
set_option maxHeartbeats 1600000 in
theorem cutlite_any (l : List UInt8) (c : UInt8) (w : World) (hl : l.length ≤ L48) :
    Calls Tryz.prog 91 #[.string (bs l), .string ⟨#[c]⟩] w fun e w' => e = .returned (CutD l c) ∧ w.grownBy w' none := by
  have ci := index1_any l c
  have hz := bs_size l
  unfold L48 at hl
  unfold CutD
  rcases Lib.indexB_cases (bs l) ⟨#[c]⟩ with h | ⟨i, h, hi⟩
  · obtain ⟨h1, h2, h3⟩ := Lib.cutB_miss (bs l) ⟨#[c]⟩ h
    change bs (Lib.cut l [c]).1 = _ at h1
    change bs (Lib.cut l [c]).2.1 = _ at h2
    change (Lib.cut l [c]).2.2 = _ at h3
    rw [h1, h2, h3]
    rw [h] at ci
    clear h h1 h2 h3
    go_enter Tryz.func91, Tryz.ntmps91
    go_wp2_with (first | (go_at_call 118; refine (ci _).mono ?_; rintro e w' ⟨rfl, rfl⟩))
    exact bodyPost_ret (results_tmp3 rfl _ _ _) rfl ⟨rfl, grownBy_refl _ _⟩
  · obtain ⟨h1, h2, h3⟩ := Lib.cutB_hit (bs l) ⟨#[c]⟩ i h
    change bs (Lib.cut l [c]).1 = _ at h1
    change bs (Lib.cut l [c]).2.1 = _ at h2
    change (Lib.cut l [c]).2.2 = _ at h3
    rw [h1, h2, h3]
    rw [h] at ci
    clear h h1 h2 h3
    change i + 1 ≤ (bs l).size at hi
    have ge : (i : Int) ≥ 0 := by omega
    have w1 : wrap64 ((i : Int) + 1) = (i : Int) + 1 := by unfold wrap64; omega
    have le1 : ((i : Int) ≤ ((bs l).size : Int)) := by omega
    have le2 : ((i : Int) + 1 ≤ ((bs l).size : Int)) := by omega
    have le3 : (0 : Int) ≤ (i : Int) + 1 := by omega
    have le0 : (0 : Int) ≤ (i : Int) := by omega
    clear hz hi
    generalize bs l = s at *
    go_enter Tryz.func91, Tryz.ntmps91
    go_wp2_with (first | (go_at_call 118; refine (ci _).mono ?_; rintro e w' ⟨rfl, rfl⟩))
    have mixed : Tryz.prog.follows Departure.mixedOrders = true := by kernel_rfl
    go_region_o
    all_goals go_wp2
    all_goals refine bodyPost_ret (results_tmp3 rfl _ _ _) rfl ?_
    all_goals first | exact ⟨rfl, grownBy_refl _ _⟩ | exact ⟨rfl, grownBy_drew (grownBy_refl _ _)⟩

theorem cut_any (l : List UInt8) (c : UInt8) (w : World) (hl : l.length ≤ L48) :
    Calls Tryz.prog 43 #[.string (bs l), .string ⟨#[c]⟩] w fun e w' => e = .returned (CutD l c) ∧ w.grownBy w' none := by
  have cc := fun w => cutlite_any l c w hl
  unfold CutD at cc ⊢
  go_enter Tryz.func43, Tryz.ntmps43
  go_wp2_with (first | (go_at_call 91; refine (cc _).mono ?_; rintro e w' ⟨rfl, hg⟩))
  exact bodyPost_ret (results_tmp3 rfl _ _ _) rfl ⟨rfl, hg⟩

/-- What the library hands back with an error lies as some value behind an interface. -/
def ErAt (w : World) : Prop := (∃ tp p, w.cell? ⟨3, 0, none⟩ = some (.iface tp p)) ∧ ∃ tp p, w.cell? ⟨4, 0, none⟩ = some (.iface tp p)
theorem ErAt.grown {w w' : World} (h : ErAt w) (hg : w.grownBy w' none) : ErAt w' := by
  obtain ⟨⟨a, b, h1⟩, ⟨c, d, h2⟩⟩ := h
  exact ⟨⟨a, b, (World.cell?_of_block (w := w) (hg.block _ (World.block_lt_of_cell? w _ h1) (by simp))).trans h1⟩, ⟨c, d, (World.cell?_of_block (w := w) (hg.block _ (World.block_lt_of_cell? w _ h2) (by simp))).trans h2⟩⟩

theorem atoi_ok (l : List UInt8) (hl : l.length ≤ L48) (v : Int) (h : Lib.atoiAll l = .ok v) (w : World) :
    Calls Tryz.prog 119 #[.string (bs l)] w fun e w' => e = .returned (.tuple #[.int .i64 v, .nilIface]) ∧ w.grownBy w' none := by
  have hz := bs_size l
  unfold L48 at hl
  refine Calls.mono (Any.strconv_Atoi_ok Tryz.laysC172 (bs l) (by omega) v h w) fun e w' hh => ⟨hh.1, ?_⟩
  rcases hh.2 with rfl | ⟨t, rfl⟩
  · exact grownBy_refl _ _
  · exact gr_below (Lib.bytesWorld_below _ _ _)
theorem atoi_no (l : List UInt8) (hl : l.length ≤ L48) (h : ∀ v, Lib.atoiAll l ≠ .ok v) (w : World) (hE : ErAt w) :
    Calls Tryz.prog 119 #[.string (bs l)] w fun e w' => (∃ (n : Int) (N : Nat), e = .returned (.tuple #[.int .i64 n, .iface (Tryz.laysC172_ren.t 168) (.pointer (some ⟨N, 0, none⟩))])) ∧ w.grownBy w' none := by
  have hz := bs_size l
  unfold L48 at hl
  obtain ⟨⟨a, b, h1⟩, ⟨c, d, h2⟩⟩ := hE
  cases e : Lib.atoiAll l with
  | ok v => exact absurd e (h v)
  | «syntax» =>
    refine Calls.mono (Any.strconv_Atoi_syntax Tryz.laysC172 (bs l) (by omega) e _ w h1 (.inr ⟨_, _, rfl⟩)) fun e w' hh => ?_
    obtain ⟨N, he, _, _, hb⟩ := hh
    exact ⟨⟨_, N, he⟩, gr_below hb⟩
  | range =>
    refine Calls.mono (Any.strconv_Atoi_range Tryz.laysC172 (bs l) (by omega) e _ w h2 (.inr ⟨_, _, rfl⟩)) fun e w' hh => ?_
    obtain ⟨N, he, _, _, hb⟩ := hh
    exact ⟨⟨_, N, he⟩, gr_below hb⟩
theorem itoa2_any (k : Nat) (h : k < 100) (w : World) :
    Calls Tryz.prog 54 #[.int .i64 (k : Int)] w fun e w' => e = .returned (.string (bs (decL k))) ∧ w' = w := by
  have hh := Any.strconv_Itoa_small Tryz.lays171 k h w
  have he : Lib.decDigits k = decL k := by
    rw [← itoa_dec h]; unfold Lib.itoa; rw [if_neg (by omega), Int.toNat_natCast]
  rw [he] at hh
  exact hh

end Go.Proofs.YtlnffpofbfigaaaGreatDoor

/-
  Numbers below a hundred as texts: the model's l1Number.
-/
namespace Go.Proofs.YtlnffpofbfigaaaGreatDoor
open Go.RowKit

theorem byte1c {w : World} {b : Nat} (c : UInt8) (n : Int) (hn : n = (c.toNat : Int)) (h : w.cell? ⟨b, 0, none⟩ = some (.int .u8 n)) :
    (convert 22 9 (.slice (some ⟨b, 0, none⟩) 1 1)).run Tryz.prog w = .ok (.string ⟨#[c]⟩) w := by
  refine run_convert_bytes_back (P := Tryz.prog) _ 22 9 5 ⟨b, 0, none⟩ 1 [c] Tryz.underlying22 Tryz.underlying5 Tryz.underlying9 (fun j hj => ?_)
  obtain rfl : j = 0 := by simpa using hj
  rw [add_none, h, hn]
  rfl
theorem oneD_dec {k : Nat} (h : k < 10) : oneD (k : Int) = decL k := by rw [decL_small h]; rfl

set_option maxRecDepth 8000 in
set_option maxHeartbeats 4000000 in
theorem num99_any (k : Nat) (h : k < 100) (w : World) :
    Calls Tryz.prog 62 #[.int .i64 k] w fun e w' => e = .returned (.string (bs (decL k))) ∧ w.grownBy w' none := by
  by_cases h10 : k < 10
  · have := num9_any (k : Int) (inB_t (by omega)) w
    rw [oneD_dec h10] at this
    exact this
  · obtain ⟨d, hd⟩ : ∃ d, d = k / 10 := ⟨_, rfl⟩
    obtain ⟨r, hr⟩ : ∃ r, r = k % 10 := ⟨_, rfl⟩
    have hk : k = 10 * d + r := by omega
    have hd9 : d < 10 := by omega
    have hr9 : r < 10 := by omega
    have e1 : decL k = decL d ++ [UInt8.ofNat (48 + r)] := by rw [decL_great h10, ← hd, ← hr]
    have c := num9_any (d : Int) (inB_t (by omega))
    rw [oneD_dec hd9] at c
    have q1 : ((k : Int)).tdiv 10 = (d : Int) := by rw [Int.tdiv_eq_ediv_of_nonneg (by omega)]; omega
    have q2 : ((k : Int)).tmod 10 = (r : Int) := by rw [Int.tmod_eq_emod_of_nonneg (by omega)]; omega
    have q3 : ¬ ((k : Int) < 10) := by omega
    have q4 : IntKind.u8.wrap (48 + (r : Int)) = 48 + (r : Int) := IntWalk.u8_in _ (by omega)
    have hb : ∀ (W : World) (b : Nat), W.cell? ⟨b, 0, none⟩ = some (.int .u8 (48 + (r : Int))) → (convert 22 9 (.slice (some ⟨b, 0, none⟩) 1 1)).run Tryz.prog W = .ok (.string ⟨#[UInt8.ofNat (48 + r)]⟩) W := fun W b hc => byte1c (UInt8.ofNat (48 + r)) _ (by
      have : (UInt8.ofNat (48 + r)).toNat = 48 + r := by simp; omega
      rw [this]; omega) hc
    obtain ⟨C, hC⟩ : ∃ C, C = UInt8.ofNat (48 + r) := ⟨_, rfl⟩
    rw [← hC] at hb
    rw [e1, ← hC]
    have hsz : ¬ (9223372036854775807 < (bs (decL d)).size + 1) := by rw [bs_size, decL_small hd9]; simp
    have hA := bs_app (decL d) [C]
    rw [← hA]
    have hS : bs [C] = ⟨#[C]⟩ := rfl
    rw [hS]
    have n8 : Hid (∀ (W : World), (W.alloc (.cells #[.int .u8 (48 + (r : Int))] 5)).cell? ⟨W.heap.size, 0, none⟩ = some (.int .u8 (48 + (r : Int)))) := Lib.hid fun W => (CellsAt.new W _ _).cell rfl
    have n9 : Hid (∀ (W2 : World), (w.alloc (.cells #[.int .u8 (48 + (r : Int))] 5)).drew.grownBy W2 none → W2.cell? ⟨w.heap.size, 0, none⟩ = some (.int .u8 (48 + (r : Int)))) := Lib.hid fun W2 g => ((CellsAt.new w _ _).grown (show (w.alloc _).grownBy W2 none from ⟨g.os, g.tape, g.output, g.size, g.block⟩)).cell rfl
    have HD9 := Lib.hid hd9
    have HR9 := Lib.hid hr9
    clear hC e1 hA hS hd hr h10 h hk hr9 hd9
    generalize bs (decL d) = D at *
    go_enter Tryz.func62, Tryz.ntmps62
    go_wp2_with fail
    have q6 : IntKind.i64.wrap (d : Int) = (d : Int) := IntWalk.i64_in _ (by have := HD9.out; omega)
    have q5 : IntKind.i64.wrap (48 + (r : Int)) = 48 + (r : Int) := IntWalk.i64_in _ (by have := HR9.out; omega)
    go_region_with (first | (go_at_call 62; (with_reducible refine (c _).mono ?_); rintro e w2 ⟨rfl, hg2⟩; have b0 := hb (w2.alloc (.cells #[.int .u8 (48 + (r : Int))] 5)) w2.heap.size (n8.out w2); (first | (have b1 := hb w2 w.heap.size (n9.out w2 hg2)) | skip)))
    all_goals go_wp2_with fail
    all_goals go_ret
    all_goals first | exact ⟨rfl, grownBy_trans (drew_grown hg2) (World.grownBy_alloc _ _ none)⟩ | exact ⟨rfl, grownBy_trans (World.grownBy_alloc w (.cells #[.int .u8 (48 + (r : Int))] 5) none) (drew_grown hg2)⟩

end Go.Proofs.YtlnffpofbfigaaaGreatDoor

/-
  Slices of texts that a call was handed or made: what is read of them (szStringS, eqStringS), the copy (toStringS). No condition but what the law itself asks of lengths.
-/
namespace Go.Proofs.YtlnffpofbfigaaaGreatDoor
open Go.RowKit

def nilS : ByteArray := ⟨#[]⟩
/-- Texts as they lie, one behind the other. -/
def StrsAt (w : World) (a : Option Addr) (ss : List ByteArray) : Prop :=
  ss.length ≤ maxLen ∧ (ss = [] ∨ ∃ b off, a = some ⟨b, off, none⟩ ∧ b < w.heap.size ∧ ∀ i, i < ss.length → w.cell? ⟨b, off + i, none⟩ = some (.string (ss.getD i nilS)))
theorem StrsAt.kept {w w' : World} {a : Option Addr} {ss : List ByteArray} {row : Option Nat} (h : StrsAt w a ss) (hg : w.grownBy w' row) (hne : ∀ x, a = some x → some x.block ≠ row) : StrsAt w' a ss := by
  refine ⟨h.1, ?_⟩
  rcases h.2 with h | ⟨b, off, ha, hb, hc⟩
  · exact .inl h
  · exact .inr ⟨b, off, ha, Nat.lt_of_lt_of_le hb hg.size, fun i hi => (World.cell?_of_block (w := w) (a := ⟨b, off + i, none⟩) (hg.block b hb (hne _ ha))).trans (hc i hi)⟩
theorem StrsAt.grown {w w' : World} {a : Option Addr} {ss : List ByteArray} (h : StrsAt w a ss) (hg : w.grownBy w' none) : StrsAt w' a ss := h.kept hg (by simp)
theorem StrsAt.nil (w : World) (a : Option Addr) : StrsAt w a [] := ⟨by simp, .inl rfl⟩
/-- All but the first. -/
theorem StrsAt.tail {w : World} {b off : Nat} {s : ByteArray} {ss : List ByteArray} (h : StrsAt w (some ⟨b, off, none⟩) (s :: ss)) : StrsAt w (some ⟨b, off + 1, none⟩) ss := by
  refine ⟨by have := h.1; simp at this; omega, ?_⟩
  rcases h.2 with h | ⟨b', off', ha, hb, hc⟩
  · cases h
  · cases ha
    refine .inr ⟨_, _, rfl, hb, fun i hi => ?_⟩
    have := hc (i + 1) (by simp; omega)
    rw [Nat.add_assoc, Nat.add_comm 1 i]
    simpa using this

/-- What the law is told of a slice of texts that came in. -/
def IsStrs (w : World) (a : Option Addr) (len cap : Nat) (zs : List ByteArray) : Prop :=
  (a = none ∧ len = 0 ∧ cap = 0 ∧ zs = []) ∨
  ∃ x, a = some x ∧ len ≤ cap ∧ cap ≤ maxLen ∧ zs.length = cap ∧ (∀ i, i < zs.length → w.cell? (x.add i) = some (.string (zs.getD i ByteArray.empty))) ∧ ∀ s ∈ zs, s.size ≤ maxLen
theorem IsStrs.at {w : World} {a : Option Addr} {len cap : Nat} {zs : List ByteArray} (h : IsStrs w a len cap zs) (hp : ∀ x, a = some x → x.spot = none) : StrsAt w a (zs.take len) ∧ (zs.take len).length = len ∧ ∀ s ∈ zs.take len, s.size ≤ maxLen := by
  rcases h with ⟨rfl, rfl, rfl, rfl⟩ | ⟨x, rfl, h1, h2, h3, h4, h5⟩
  · exact ⟨StrsAt.nil _ _, rfl, by simp⟩
  · have hl : (zs.take len).length = len := by rw [List.length_take]; omega
    refine ⟨⟨by omega, ?_⟩, hl, fun s hs => h5 s (List.mem_of_mem_take hs)⟩
    by_cases h0 : len = 0
    · left; rw [h0]; rfl
    · right
      obtain ⟨b, off, p⟩ := x
      obtain rfl : p = none := hp _ rfl
      have c0 := h4 0 (by omega)
      refine ⟨b, off, rfl, World.block_lt_of_cell? w _ (by simpa [Addr.add] using c0), fun i hi => ?_⟩
      have := h4 i (by omega)
      rw [show (⟨b, off + i, none⟩ : Addr) = (⟨b, off, none⟩ : Addr).add i by simp [Addr.add], this]
      rw [hl] at hi
      simp [List.getD_eq_getElem?_getD, hi, nilS]
      cases zs[i]? <;> rfl

/-! Two rows of texts, the same. -/
def upToS (x : List ByteArray) (k : Nat) (y : List ByteArray) : Prop := ∀ j, j < k → x.getD j nilS = y.getD j nilS

def szTo (ss : List ByteArray) (L : Int) : Nat → Int
  | 0 => L
  | k + 1 => szTo ss L k - ((ss.getD k nilS).size : Int)
/-- What szStringS answers: what is left, or -1 where it is too much. -/
def szB (ss : List ByteArray) (L : Int) : Bool := decide (0 ≤ L - ss.length) && (List.range ss.length).all fun k => decide (0 ≤ szTo ss (L - ss.length) (k + 1))
theorem szB_of {ss : List ByteArray} {L : Int} (h : szB ss L = true) : 0 ≤ L - ss.length ∧ ∀ k, k < ss.length → 0 ≤ szTo ss (L - ss.length) (k + 1) := by
  unfold szB at h
  rw [Bool.and_eq_true, List.all_eq_true] at h
  exact ⟨of_decide_eq_true h.1, fun k hk => of_decide_eq_true (h.2 k (List.mem_range.2 hk))⟩
theorem szB_no {ss : List ByteArray} {L : Int} {k : Nat} (hk : k < ss.length) (h : szTo ss (L - ss.length) (k + 1) < 0) : szB ss L = false := by
  cases e : szB ss L
  · rfl
  · have := (szB_of e).2 k hk; omega
theorem szB_neg {ss : List ByteArray} {L : Int} (h : L - (ss.length : Int) < 0) : szB ss L = false := by
  cases e : szB ss L
  · rfl
  · have := (szB_of e).1; omega
theorem szTo_le (ss : List ByteArray) (L : Int) : ∀ k, szTo ss L k ≤ L
  | 0 => Int.le_refl _
  | k + 1 => by have := szTo_le ss L k; show szTo ss L k - _ ≤ L; omega
theorem szTo_size {ss : List ByteArray} {L : Int} (k : Nat) : ((ss.getD k nilS).size : Int) = szTo ss L k - szTo ss L (k + 1) := by
  show _ = szTo ss L k - (szTo ss L k - _); omega
/-- Where szStringS lets a row by, it has at most so many texts, each of at most so many bytes. -/
theorem szB_small {ss : List ByteArray} {L : Int} (h : szB ss L = true) : (ss.length : Int) ≤ L ∧ ∀ s ∈ ss, (s.size : Int) ≤ L := by
  obtain ⟨h1, h2⟩ := szB_of h
  refine ⟨by omega, fun s hs => ?_⟩
  obtain ⟨k, hk, rfl⟩ := List.mem_iff_getElem.1 hs
  have h3 := h2 k hk
  have h4 := szTo_size (ss := ss) (L := L - ss.length) k
  have h5 := szTo_le ss (L - ss.length) k
  rw [List.getD_eq_getElem?_getD, List.getElem?_eq_getElem hk, Option.getD_some] at h4
  omega
def szV (ss : List ByteArray) (L : Int) : Int := if szB ss L = true then szTo ss (L - ss.length) ss.length else -1
theorem szV_t {ss : List ByteArray} {L : Int} (h : szB ss L = true) : szV ss L = szTo ss (L - ss.length) ss.length := if_pos h
theorem szV_f {ss : List ByteArray} {L : Int} (h : szB ss L = false) : szV ss L = -1 := if_neg (by rw [h]; simp)
theorem szV_pos {ss : List ByteArray} {L : Int} (h : szB ss L = true) : 0 ≤ szV ss L := by
  rw [szV_t h]
  obtain ⟨h1, h2⟩ := szB_of h
  cases e : ss.length with
  | zero => show 0 ≤ L - ((0 : Nat) : Int); rw [← e]; exact h1
  | succ k =>
    have := h2 k (by omega)
    rw [e] at this
    exact this

def SzRel (ss : List ByteArray) (L : Int) (w : World) (l i : Value) (wr : World) : Prop :=
  ∃ k : Nat, k ≤ ss.length ∧ i = .int .i64 k ∧ l = .int .i64 (szTo ss (L - ss.length) k) ∧ 0 ≤ szTo ss (L - ss.length) k ∧ (∀ j, j < k → 0 ≤ szTo ss (L - ss.length) (j + 1)) ∧ w = wr

set_option maxHeartbeats 1000000 in
theorem sz_any (L : Int) (hL : 0 ≤ L ∧ L ≤ 100000000) (a : Option Addr) (cap : Nat) (ss : List ByteArray) (hz : ∀ s ∈ ss, s.size ≤ maxLen) (w : World) (h : StrsAt w a ss) :
    Calls Tryz.prog 33 #[.slice a ss.length cap, .int .i64 L] w fun e w' => e = .returned (.int .i64 (szV ss L)) ∧ w = w' := by
  have hm := h.1
  unfold maxLen at hm hz
  have Hh := Lib.hid h
  have Hz := Lib.hid hz
  clear h hz
  by_cases h0 : L - (ss.length : Int) < 0
  · have e : szV ss L = -1 := szV_f (szB_neg h0)
    rw [e]
    go_enter Tryz.func33, Tryz.ntmps33
    go_wp2
    go_ret
    exact ⟨rfl, rfl⟩
  · go_enter Tryz.func33, Tryz.ntmps33
    go_wp2
    go_loopw [1, 5] (fun l i wr => SzRel ss L w l i wr) (fun _ i _ => ss.length - (intOf i).toNat)
    case atStart => exact ⟨0, by omega, rfl, rfl, (by show 0 ≤ L - _; omega), fun j hj => absurd hj (by omega), rfl⟩
    case round =>
      obtain ⟨k, hk, rfl, rfl, h3, h4, rfl⟩ := hrel
      have Hk := Lib.hid h4
      clear h4
      by_cases hlt : k < ss.length
      · rcases Hh.out.2 with h1 | ⟨b, off, rfl, hb, hc⟩
        · rw [h1] at hlt; simp at hlt
        have hck := hc k hlt
        have hs := Hz.out (ss.getD k nilS) (by rw [List.getD_eq_getElem?_getD, List.getElem?_eq_getElem hlt, Option.getD_some]; exact List.getElem_mem hlt)
        have hS : szTo ss (L - ss.length) k - ((ss.getD k nilS).size : Int) = szTo ss (L - ss.length) (k + 1) := rfl
        have hle := szTo_le ss (L - ss.length) k
        clear hc hb
        by_cases hn : szTo ss (L - ss.length) (k + 1) < 0
        · have e := Lib.hid (szV_f (szB_no hlt hn))
          generalize szTo ss (L - ss.length) (k + 1) = q at *
          generalize szTo ss (L - ss.length) k = p at *
          generalize ss.getD k nilS = t at *
          go_wp2
          go_ret
          exact ⟨by rw [e.out]; rfl, rfl⟩
        · have Hn : Hid (∀ j, j < k + 1 → 0 ≤ szTo ss (L - ss.length) (j + 1)) := fun j hj => by
            by_cases e : j = k
            · rw [e]; omega
            · exact Hk.out j (by omega)
          have e1 := Lib.hid (rfl : szTo ss (L - ss.length) (k + 1) = szTo ss (L - ss.length) (k + 1))
          generalize hq : szTo ss (L - ss.length) (k + 1) = q at *
          have Hq := Lib.hid hq
          clear hq
          generalize szTo ss (L - ss.length) k = p at *
          generalize ss.getD k nilS = t at *
          go_wp2
          go_roundw
          case rel => exact ⟨k + 1, by omega, by go_num, by rw [Hq.out] <;> (refine congrArg (Value.int .i64) ?_; omega), by rw [Hq.out]; omega, Hn.out, rfl⟩
          case measure => simp [intOf]; omega
      · obtain rfl : k = ss.length := by omega
        have e : Hid (szV ss L = szTo ss (L - ss.length) ss.length) := szV_t (by
          unfold szB
          rw [Bool.and_eq_true, List.all_eq_true]
          exact ⟨decide_eq_true (by omega), fun k hk => decide_eq_true (Hk.out k (List.mem_range.1 hk))⟩)
        go_wp2
        go_ret
        exact ⟨by rw [e.out]; rfl, rfl⟩

theorem strs_eq_self (ss : List ByteArray) (k : Nat) : upToS ss k ss := fun _ _ => rfl

set_option maxHeartbeats 1000000 in
theorem eqS_any (a b : Option Addr) (ca cb : Nat) (ss : List ByteArray) (w : World) (hx : StrsAt w a ss) (hy : StrsAt w b ss) :
    Calls Tryz.prog 35 #[.slice a ss.length ca, .slice b ss.length cb] w fun e w' => e = .returned (.bool true) ∧ w.grownBy w' none := by
  have hm := hx.1
  unfold maxLen at hm
  have Hx := Lib.hid hx
  have Hy := Lib.hid hy
  clear hx hy
  have g0 : ((ss.length : Int) != (ss.length : Int)) = false := by simp
  go_enter Tryz.func35, Tryz.ntmps35
  go_wp2
  clear g0
  go_loopw [5] (fun i wr => ∃ k : Nat, k ≤ ss.length ∧ i = .int .i64 k ∧ w.grownBy wr none) (fun i _ => ss.length - (intOf i).toNat)
  case atStart => exact ⟨0, by omega, rfl, grownBy_refl _ _⟩
  case round =>
    obtain ⟨k, hk, rfl, hgr⟩ := hrel
    by_cases hlt : k < ss.length
    · have hx2 := Hx.out.grown hgr
      have hy2 := Hy.out.grown hgr
      have Hgr := Lib.hid hgr
      clear hgr
      rcases hx2.2 with h0 | ⟨bx, ox, rfl, hbx, hcx⟩
      · rw [h0] at hlt; simp at hlt
      rcases hy2.2 with h0 | ⟨by', oy, rfl, hby, hcy⟩
      · rw [h0] at hlt; simp at hlt
      have hc1 := hcx k hlt
      have hc2 := hcy k hlt
      clear hx2 hy2 hcx hcy hbx hby
      generalize ss.getD k nilS = p at *
      have g1 : (p.toList != p.toList) = false := by simp
      go_wp2
      go_quiet (fail)
      go_wp2
      go_roundw
      case rel => exact ⟨k + 1, by omega, by go_num, grownBy_drewN Hgr.out _⟩
      case measure => simp [intOf]; omega
    · have Hgr := Lib.hid hgr
      clear hgr
      go_wp2
      go_ret
      exact ⟨rfl, Hgr.out⟩

theorem infoStr : (Tryz.prog.info? 9).map (fun i => (i.zero, i.size, i.bytes)) = some (some (.string nilS), 1, 16) := by kernel_rfl

/-- What a function that answers with a new slice of texts leaves. -/
def StrsPost (ss : List ByteArray) (w : World) (e : Ending) (w' : World) : Prop :=
  ∃ a cap, e = .returned (.slice a ss.length cap) ∧ StrsAt w' a ss ∧ w.grownBy w' none

def CpyRel (g : Nat) (ss : List ByteArray) (w : World) (i : Value) (wr : World) : Prop :=
  ∃ (k : Nat) (xs : List Value), k ≤ ss.length ∧ i = .int .i64 k ∧ wr.ownsRow w.heap.size 9 1 (.slice (some ⟨g, 0, none⟩) ss.length ss.length) ss.length xs ∧ (∀ j, j < k → xs[j]? = some (.string (ss.getD j nilS))) ∧ w.grownBy wr none

theorem own_strs {g : Nat} {ss : List ByteArray} {w wr : World} {xs : List Value} (hm : ss.length ≤ maxLen) (h : wr.ownsRow w.heap.size 9 1 (.slice (some ⟨g, 0, none⟩) ss.length ss.length) ss.length xs) (hx : ∀ j, j < ss.length → xs[j]? = some (.string (ss.getD j nilS))) : StrsAt wr (some ⟨g, 0, none⟩) ss := by
  refine ⟨hm, ?_⟩
  by_cases h0 : ss.length = 0
  · exact .inl (List.length_eq_zero_iff.1 h0)
  · have c0 := World.ownsRow.cellAt h 0 (by omega)
    rw [hx 0 (by omega)] at c0
    refine .inr ⟨g, 0, rfl, World.block_lt_of_cell? wr _ c0, fun i hi => ?_⟩
    have hc := World.ownsRow.cellAt h i (by omega)
    rw [Nat.zero_add, hc, hx i hi]

set_option maxHeartbeats 1000000 in
theorem toS_any (a : Option Addr) (cap : Nat) (ss : List ByteArray) (hn : ss.length ≤ 100000000) (w : World) (h : StrsAt w a ss) :
    Calls Tryz.prog 34 #[.slice a ss.length cap] w (StrsPost ss w) := by
  obtain ⟨i0, hi, hz0, hz1, hz2⟩ := info_parts infoStr
  have Hh := Lib.hid h
  have hm0 := h.1
  clear h
  go_enter Tryz.func34, Tryz.ntmps34
  go_wp2_with (at_make; refine wpList_make_full _ rfl _ _ 49 rfl w.heap.size 9 i0 (.string nilS) 1 Tryz.underlying49 hi hz0 hz1 .i64 .i64 _ _ ss.length rfl rfl rfl rfl ?b2 ?b3 (Nat.le_refl _) ?_)
  case b2 => rw [hz2]; omega
  case b3 => unfold maxLen; omega
  intro w0 hown0 hgrow0
  go_wp2
  go_loopw [4] (fun i wr => CpyRel w.heap.size ss w i wr) (fun i _ => ss.length - (intOf i).toNat)
  case atStart => exact ⟨0, _, by omega, rfl, hown0, fun j hj => absurd hj (by omega), hgrow0⟩
  case round =>
    obtain ⟨k, xs, hk, rfl, hown, hxs, hgr⟩ := hrel
    by_cases hlt : k < ss.length
    · have hx2 := Hh.out.grown hgr
      rcases hx2.2 with h0 | ⟨bx, ox, rfl, hbx, hcx⟩
      · rw [h0] at hlt; simp at hlt
      have hc1 := hcx k hlt
      have hfr := World.ownsRow.frozenAt hown k
      have hce := World.ownsRow.cellAt hown k (by omega)
      have hxl := hown.1
      rw [List.getElem?_eq_getElem (by omega)] at hce
      obtain ⟨u, hce⟩ : ∃ u, wr.cell? ⟨w.heap.size, k, none⟩ = some u := ⟨_, hce⟩
      have hst := Lib.hid (World.ownsRow.stored hown k (.string (ss.getD k nilS)))
      have hg2 := Lib.hid (grownBy_row hgr hown (Nat.le_refl _) hst.out.2)
      have hxs2 : Hid (∀ j, j < k + 1 → (xs.set k (.string (ss.getD k nilS)))[j]? = some (.string (ss.getD j nilS))) := fun j hj => by
        by_cases e : j = k
        · subst e; rw [List.getElem?_set_self (by omega)]
        · rw [List.getElem?_set_ne (by omega)]; exact hxs j (by omega)
      clear hown hgr hx2 hcx hbx hxs
      generalize ss.getD k nilS = q at *
      go_wp2
      go_roundw
      case rel => exact ⟨k + 1, _, by omega, by go_num, hst.out.1, hxs2.out, hg2.out⟩
      case measure => simp [intOf]; omega
    · obtain rfl : k = ss.length := by omega
      have hs := Lib.hid (own_strs hm0 hown hxs)
      have Hg := Lib.hid hgr
      clear hown hxs hgr
      go_wp2
      go_ret
      exact ⟨_, _, rfl, hs.out, Hg.out⟩

end Go.Proofs.YtlnffpofbfigaaaGreatDoor

/-
  Numbers with commas between them: both.
-/
namespace Go.Proofs.YtlnffpofbfigaaaGreatDoor
open Go.RowKit

def Num99 (xs : List Int) : Prop := ∀ x ∈ xs, 0 ≤ x ∧ x < 100
theorem take_int {xs : List Int} {k : Nat} (hk : k < xs.length) : xs.take (k + 1) = xs.take k ++ [xs.getD k 0] := by
  rw [List.take_add_one, List.getD_eq_getElem?_getD]
  simp [hk]
theorem get_int {xs : List Int} {k : Nat} (hk : k < xs.length) : xs.getD k 0 ∈ xs := by
  rw [List.getD_eq_getElem?_getD, List.getElem?_eq_getElem hk]
  exact List.getElem_mem hk
theorem comL_len : ∀ (l : List Nat), (∀ x ∈ l, x < 100) → (comL l).length ≤ 3 * l.length
  | [], _ => by simp [comL]
  | [x], h => by
    have := decL_len (m := 2) (h x (by simp)) (by omega)
    show (decL x).length ≤ _
    simp; omega
  | x :: y :: l, h => by
    have h1 := decL_len (m := 2) (h x (by simp)) (by omega)
    have h2 := comL_len (y :: l) fun z hz => h z (by simp at hz ⊢; exact .inr hz)
    rw [comL_cons]
    simp only [List.length_append, List.length_cons] at h2 ⊢
    omega
theorem nums_take {xs : List Int} (h : Num99 xs) (k : Nat) : ∀ x ∈ (xs.take k).map Int.toNat, x < 100 := fun x hx => by
  obtain ⟨y, hy, rfl⟩ := List.mem_map.1 hx
  have := h y (List.mem_of_mem_take hy)
  omega
theorem rowA_nil : rowA [] = noneA := rfl
theorem rowA_pos {xs : List Int} (h : xs ≠ []) : rowA xs = bs (comL (xs.map Int.toNat)) := by
  cases xs with
  | nil => exact absurd rfl h
  | cons x l => rfl

def RwRel (xs : List Int) (w : World) (kv ov : Value) (wr : World) : Prop := ∃ k : Nat, k ≤ xs.length ∧ kv = .int .i64 k ∧ ov = .string (bs (comL ((xs.take k).map Int.toNat))) ∧ w.grownBy wr none

set_option maxRecDepth 8000 in
set_option maxHeartbeats 4000000 in
theorem srowt_any (xs : List Int) (hx : Num99 xs) (hn : xs.length ≤ 1000) (a : Option Addr) (cap : Nat) (w : World) (h : IntsAt w a xs) :
    Calls Tryz.prog 68 #[.slice a xs.length cap] w fun e w' => e = .returned (.string (rowA xs)) ∧ w.grownBy w' none := by
  have H := Lib.hid h
  have HX := Lib.hid hx
  clear h hx
  go_enter Tryz.func68, Tryz.ntmps68
  go_wp2_with fail
  go_loopw [4, 3] (fun kv ov wr => RwRel xs w kv ov wr) (fun kv _ _ => xs.length - (intOf kv).toNat)
  case atStart => exact ⟨0, by omega, rfl, rfl, grownBy_refl _ _⟩
  case round =>
    obtain ⟨k, hk, rfl, rfl, hgr⟩ := hrel
    have Hgr := Lib.hid hgr
    clear hgr
    by_cases hlt : k < xs.length
    · rcases (H.out.grown Hgr.out).2 with h0 | ⟨bx, ox, rfl, _, hcx⟩
      · rw [h0] at hlt; simp at hlt
      have hc : ∀ w2, wr.grownBy w2 none → w2.cell? ⟨bx, ox + k, none⟩ = some (.int .i64 (xs.getD k 0)) := fun w2 g => by
        rcases (H.out.grown (grownBy_trans Hgr.out g)).2 with h0 | ⟨b', o', e, _, hc'⟩
        · rw [h0] at hlt; simp at hlt
        · cases e; exact hc' k hlt
      have HC := Lib.hid hc
      have c0 := hc wr (grownBy_refl _ _)
      have hq := HX.out _ (get_int hlt)
      have HN := Lib.hid (take_int hlt)
      have hL := comL_len _ (nums_take HX.out k)
      rw [List.length_map, List.length_take, Nat.min_eq_left hk] at hL
      clear hc hcx
      generalize xs.getD k 0 = q at *
      obtain ⟨Q, rfl⟩ := Int.eq_ofNat_of_zero_le hq.1
      have cn := num99_any Q (by omega)
      have hdl := decL_len (m := 2) (k := Q) (by omega) (by omega)
      obtain ⟨O, hO⟩ : ∃ O, O = bs (comL ((xs.take k).map Int.toNat)) := ⟨_, rfl⟩
      obtain ⟨D, hD⟩ : ∃ D, D = bs (decL Q) := ⟨_, rfl⟩
      have zO : Hid (O.size ≤ 3 * k) := Lib.hid (by rw [hO, bs_size]; exact hL)
      have zD : Hid (D.size ≤ 2) := Lib.hid (by rw [hD, bs_size]; exact hdl)
      rw [← hO]
      rw [← hD] at cn
      have n1 : ¬ (9223372036854775807 < O.size + 1) := by have := zO.out; omega
      have n2 : ¬ (9223372036854775807 < O.size + 1 + D.size) := by have := zO.out; have := zD.out; omega
      have n3 : ¬ (9223372036854775807 < O.size + D.size) := by have := zO.out; have := zD.out; omega
      have HO := Lib.hid hO
      have HD := Lib.hid hD
      have hcm : (xs.take (k + 1)).map Int.toNat = (xs.take k).map Int.toNat ++ [Q] := by rw [HN.out]; simp
      have HCM := Lib.hid hcm
      clear hO hD hL hdl hq hcm
      by_cases hk0 : k = 0
      · have hnp : ¬ ((0 : Int) < (k : Int)) := by omega
        have hfin : Hid (O ++ D = bs (comL ((xs.take (k + 1)).map Int.toNat))) := Lib.hid (by
          rw [HCM.out, HO.out, HD.out, bs_app, hk0]
          rfl)
        have HK0 := Lib.hid hk0
        clear hk0
        go_wp2_with (first | (go_at_call 62; (with_reducible refine (cn _).mono ?_); rintro e w2 ⟨rfl, g2⟩))
        go_roundw
        case rel => exact ⟨k + 1, by omega, by go_num, by rw [hfin.out], grownBy_trans Hgr.out g2⟩
        case measure => simp [intOf]; omega
      · have hpos : (0 : Int) < (k : Int) := by omega
        have hfin : Hid (O ++ ⟨#[44]⟩ ++ D = bs (comL ((xs.take (k + 1)).map Int.toNat))) := Lib.hid (by
          rw [HCM.out, HO.out, HD.out, comL_snoc _ _ (by
            intro e
            have := congrArg List.length e
            rw [List.length_map, List.length_take, List.length_nil] at this
            omega)]
          rw [show (⟨#[44]⟩ : ByteArray) = bs [44] from rfl, bs_app, bs_app]
          simp)
        go_wp2_with (first | (go_at_call 62; (with_reducible refine (cn _).mono ?_); rintro e w2 ⟨rfl, g2⟩))
        go_roundw
        case rel => exact ⟨k + 1, by omega, by go_num, by rw [hfin.out], grownBy_trans Hgr.out g2⟩
        case measure => simp [intOf]; omega
    · obtain rfl : k = xs.length := by omega
      rw [List.take_length]
      by_cases h0 : xs = []
      · subst h0
        go_wp2_with fail
        go_ret
        exact ⟨rfl, Hgr.out⟩
      · have hne : ((xs.length : Int) == 0) = false := beq_false_of_ne fun e => h0 (List.length_eq_zero_iff.1 (by omega))
        rw [← rowA_pos h0]
        obtain ⟨R, hR⟩ : ∃ R, R = rowA xs := ⟨_, rfl⟩
        have HR := Lib.hid hR
        rw [← hR]
        clear hR
        go_wp2_with fail
        go_ret
        exact ⟨by rw [← HR.out]; rfl, Hgr.out⟩

theorem syes_any (b : Bool) (w : World) : Calls Tryz.prog 63 #[.bool b] w fun e w' => e = .returned (.string (yesA b)) ∧ w = w' := by
  cases b
  all_goals
    go_enter Tryz.func63, Tryz.ntmps63
    go_wp2_with fail
    go_ret
    exact ⟨rfl, rfl⟩
theorem iyes_any (b : Bool) (w : World) : Calls Tryz.prog 134 #[.bool b] w fun e w' => e = .returned (.string (yesA b)) ∧ w = w' := by
  cases b
  all_goals
    go_enter Tryz.func134, Tryz.ntmps134
    go_wp2_with fail
    go_ret
    exact ⟨rfl, rfl⟩

theorem join_com : ∀ (l : List Nat), Lib.join (l.map decL) [44] = comL l
  | [] => rfl
  | [x] => by rw [List.map_singleton, Lib.join_one]; rfl
  | x :: y :: l => by
    have ih := join_com (y :: l)
    rw [List.map_cons, Lib.join_cons] at ih ⊢
    rw [comL_cons, ← ih, List.map_cons]
    simp [Lib.joinTail]
def NtRel (g : Nat) (xs : List Int) (w : World) (i : Value) (wr : World) : Prop :=
  ∃ (k : Nat) (vs : List Value), k ≤ xs.length ∧ i = .int .i64 k ∧ wr.ownsRow w.heap.size 9 1 (.slice (some ⟨g, 0, none⟩) xs.length xs.length) xs.length vs ∧ (∀ j, j < k → vs[j]? = some (.string (bs (decL (xs.getD j 0).toNat)))) ∧ w.grownBy wr none

set_option maxRecDepth 8000 in
set_option maxHeartbeats 4000000 in
theorem nums_any (xs : List Int) (hx : Num99 xs) (hn : xs.length ≤ 1000) (a : Option Addr) (cap : Nat) (w : World) (h : IntsAt w a xs) :
    Calls Tryz.prog 153 #[.slice a xs.length cap] w fun e w' => e = .returned (.string (rowA xs)) ∧ w.grownBy w' none := by
  obtain ⟨i0, hi, hz0, hz1, hz2⟩ := info_parts infoStr
  have H := Lib.hid h
  have HX := Lib.hid hx
  clear h hx
  by_cases h0 : xs = []
  · subst h0
    go_enter Tryz.func153, Tryz.ntmps153
    go_wp2_with fail
    go_ret
    exact ⟨rfl, grownBy_refl _ _⟩
  · have hne : ((xs.length : Int) == 0) = false := beq_false_of_ne fun e => h0 (List.length_eq_zero_iff.1 (by omega))
    rw [rowA_pos h0]
    have H0 := Lib.hid h0
    clear h0
    go_enter Tryz.func153, Tryz.ntmps153
    go_wp2_with (at_make; refine wpList_make_full _ rfl _ _ 49 rfl w.heap.size 9 i0 (.string nilS) 1 Tryz.underlying49 hi hz0 hz1 .i64 .i64 _ _ xs.length rfl rfl rfl rfl ?b2 ?b3 (Nat.le_refl _) ?_)
    case b2 => rw [hz2]; omega
    case b3 => unfold maxLen; omega
    intro w0 hown0 hgrow0
    go_wp2
    go_loopw [14] (fun i wr => NtRel w.heap.size xs w i wr) (fun i _ => xs.length - (intOf i).toNat)
    case atStart => exact ⟨0, _, by omega, rfl, hown0, fun j hj => absurd hj (by omega), hgrow0⟩
    case round =>
      obtain ⟨k, vs, hk, rfl, hown, hxs, hgr⟩ := hrel
      by_cases hlt : k < xs.length
      · rcases (H.out.grown hgr).2 with h0 | ⟨bx, ox, rfl, hbx, hcx⟩
        · rw [h0] at hlt; simp at hlt
        have hc1 := hcx k hlt
        have hq := HX.out _ (get_int hlt)
        have hfr := World.ownsRow.frozenAt hown k
        have hce := World.ownsRow.cellAt hown k (by omega)
        have hxl := hown.1
        rw [List.getElem?_eq_getElem (by omega)] at hce
        obtain ⟨u, hce⟩ : ∃ u, wr.cell? ⟨w.heap.size, k, none⟩ = some u := ⟨_, hce⟩
        have hst := Lib.hid (World.ownsRow.stored hown k (.string (bs (decL (xs.getD k 0).toNat))))
        have hg2 := Lib.hid (grownBy_row hgr hown (Nat.le_refl _) hst.out.2)
        have hxs2 : Hid (∀ j, j < k + 1 → (vs.set k (.string (bs (decL (xs.getD k 0).toNat))))[j]? = some (.string (bs (decL (xs.getD j 0).toNat)))) := Lib.hid fun j hj => by
          by_cases e : j = k
          · subst e; rw [List.getElem?_set_self (by omega)]
          · rw [List.getElem?_set_ne (by omega)]; exact hxs j (by omega)
        clear hown hgr hcx hbx hxs
        have HXL := Lib.hid hxl
        generalize xs.getD k 0 = q at *
        obtain ⟨Q, rfl⟩ := Int.eq_ofNat_of_zero_le hq.1
        have cn := itoa2_any Q (by omega)
        rw [Int.toNat_natCast] at hst hg2 hxs2
        generalize bs (decL Q) = D at *
        clear hq
        go_wp2_with (first | (go_at_call 54; (with_reducible refine (cn _).mono ?_); rintro e w2 ⟨rfl, rfl⟩))
        go_roundw
        case rel => exact ⟨k + 1, _, by omega, by go_num, hst.out.1, hxs2.out, hg2.out⟩
        case measure => simp [intOf]; omega
      · obtain rfl : k = xs.length := by omega
        have hjl := comL_len _ (nums_take HX.out xs.length)
        rw [List.length_map, List.take_length] at hjl
        have hss : (xs.map fun x => bs (decL x.toNat)).map (·.data.toList) = (xs.map Int.toNat).map decL := by
          rw [List.map_map, List.map_map]; rfl
        have cj := Any.strings_Join Tryz.lays156 Tryz.Builder_Extra_156 w.heap.size 0 xs.length (xs.map fun x => bs (decL x.toNat)) ⟨#[44]⟩ wr (fun j x hj => by
          have hjl : j < xs.length := by have := (List.getElem?_eq_some_iff.1 hj).1; simpa using this
          have hc := World.ownsRow.cellAt hown j (by omega)
          rw [Nat.zero_add, hc, hxs j hjl]
          rw [List.getElem?_map, List.getElem?_eq_getElem hjl] at hj
          cases hj
          rw [List.getD_eq_getElem?_getD, List.getElem?_eq_getElem hjl]; rfl) (by
          have hp : 0 < xs.length := List.length_pos_iff.2 H0.out
          have c0 := World.ownsRow.cellAt hown 0 (by omega)
          rw [hxs 0 hp] at c0
          exact World.block_lt_of_cell? wr _ c0) (by simp; omega) (by simp) (by
          rw [hss]
          show (Lib.join _ [44]).length ≤ _
          rw [join_com]; omega)
        rw [hss] at cj
        change Calls Tryz.prog _ _ _ (fun e w' => e = .returned (.string ⟨(Lib.join _ [44]).toArray⟩) ∧ _) at cj
        rw [join_com, List.length_map] at cj
        have hg := Lib.hid hgr
        clear hown hxs hgr hss hjl
        go_wp2_with fail
        refine cj.mono ?_
        rintro e w2 ⟨rfl, hb2⟩
        go_wp2_with fail
        go_ret
        exact ⟨rfl, grownBy_trans hg.out (gr_below hb2)⟩

end Go.Proofs.YtlnffpofbfigaaaGreatDoor

/-
  impl.LettersIn: the methods by which a tree counts its letters, by induction on the tree. No condition.
-/
namespace Go.Proofs.YtlnffpofbfigaaaGreatDoor
open Go.RowKit Go.Maps Go.Joins

def lsFn : Tr → FuncId
  | .lt _ => 236
  | .tru _ => 238
  | .neg _ => 241
  | .bin _ _ _ => 246

theorem ls_meth (t : Tr) (F : Nat) (w : World) : (method (F + 1) (nodeT t) (nodeP t) "loop.example/manyvalues/impl.letters").run Tryz.prog w = .ok (lsFn t, nodeP t) w := by
  cases t <;> kernel_rfl

theorem ls_nil (t : Tr) (F : Nat) (w : World) : (nilAhead (F + 1) (nodeT t) (nodeP t) "loop.example/manyvalues/impl.letters").run Tryz.prog w = .ok (some false) w := by
  cases t <;> kernel_rfl

theorem ls_enter (t : Tr) (args : Array Value) (w : World) : (callFunc (lsFn t) args).run Tryz.prog w = .ok (.enter (lsFn t) args) w := by
  cases t <;> kernel_rfl

def LsOk (t : Tr) : Prop := ∀ w : World, Calls Tryz.prog (lsFn t) #[nodeP t] w fun e w' => e = .returned (.int .i64 (t.ls : Int)) ∧ w.grownBy w' none

theorem ls_neg {x : Tr} (ih : LsOk x) : LsOk (.neg x) := by
  intro w
  have hm := ls_meth x
  have he := ls_enter x
  show Calls Tryz.prog 241 #[.agg #[.iface (nodeT x) (nodeP x)]] w _
  go_enter Tryz.func241, Tryz.ntmps241
  go_wp2_with fail
  refine (ih _).mono ?_
  rintro e w1 ⟨rfl, g1⟩
  go_wp2_with fail
  go_ret
  exact ⟨rfl, grownBy_trans (World.grownBy_alloc _ _ _) g1⟩

set_option maxHeartbeats 2000000 in
theorem ls_bin {g : Sg} {x y : Tr} (ihx : LsOk x) (ihy : LsOk y) (hx : x.ls ≤ 60) (hy : y.ls ≤ 60) : LsOk (.bin g x y) := by
  intro w
  have hm := ls_meth x
  have hm2 := ls_meth y
  have he := ls_enter x
  have he2 := ls_enter y
  have hn := ls_nil x
  have hn2 := ls_nil y
  have hw : IntKind.i64.wrap ((x.ls : Int) + (y.ls : Int)) = (x.ls : Int) + (y.ls : Int) := IntWalk.i64_in _ (by omega)
  show Calls Tryz.prog 246 #[.agg #[.string ⟨#[g.byte]⟩, .func (.func g.fn) #[] #[], .iface (nodeT x) (nodeP x), .iface (nodeT y) (nodeP y)]] w _
  go_enter Tryz.func246, Tryz.ntmps246
  go_wp2_with fail
  have hb : (w.alloc (.cells #[.string ⟨#[g.byte]⟩, .func (.func g.fn) #[] #[], .iface (nodeT x) (nodeP x), .iface (nodeT y) (nodeP y)] 205)).drew.cell? ⟨w.heap.size, 2, none⟩ = some (.iface (nodeT x) (nodeP x)) ∧
    (w.alloc (.cells #[.string ⟨#[g.byte]⟩, .func (.func g.fn) #[] #[], .iface (nodeT x) (nodeP x), .iface (nodeT y) (nodeP y)] 205)).drew.cell? ⟨w.heap.size, 3, none⟩ = some (.iface (nodeT y) (nodeP y)) ∧
    w.grownBy (w.alloc (.cells #[.string ⟨#[g.byte]⟩, .func (.func g.fn) #[] #[], .iface (nodeT x) (nodeP x), .iface (nodeT y) (nodeP y)] 205)).drew none :=
    ⟨World.cell?_alloc_mark w _ _ _ _, World.cell?_alloc_mark w _ _ _ _, grownBy_drew (World.grownBy_alloc _ _ _)⟩
  go_region_held3 (fun w' => w'.cell? ⟨w.heap.size, 2, none⟩ = some (.iface (nodeT x) (nodeP x)) ∧ w'.cell? ⟨w.heap.size, 3, none⟩ = some (.iface (nodeT y) (nodeP y)) ∧ w.grownBy w' none)
    (first | exact hb | exact held2 (by assumption) gx | exact held2 (by assumption) gy)
    (first | (refine (ihx _).mono ?_; rintro e w2 ⟨rfl, gx⟩) | (refine (ihy _).mono ?_; rintro e w3 ⟨rfl, gy⟩))
  all_goals
    go_wp2_with fail
    go_ret
    exact ⟨congrArg (fun z : Int => Ending.returned (Value.int .i64 z)) (by show _ = ((x.ls + y.ls : Nat) : Int); omega), grownBy_trans (grownBy_trans hb.2.2 gx) gy⟩

theorem ls_all : ∀ t : Tr, t.ls ≤ 60 → LsOk t := by
  intro t
  induction t with
  | lt k =>
    intro _ w
    show Calls Tryz.prog 236 #[.int .i64 k.num] w _
    go_enter Tryz.func236, Tryz.ntmps236
    go_wp2_with fail
    go_ret
    exact ⟨rfl, grownBy_refl _ _⟩
  | tru b =>
    intro _ w
    show Calls Tryz.prog 238 #[.bool b] w _
    go_enter Tryz.func238, Tryz.ntmps238
    go_wp2_with fail
    go_ret
    exact ⟨rfl, grownBy_refl _ _⟩
  | neg x ih => intro h; exact ls_neg (ih h)
  | bin g x y ihx ihy =>
    intro h
    have hxy : x.ls + y.ls ≤ 60 := h
    exact ls_bin (ihx (by omega)) (ihy (by omega)) (by omega) (by omega)

theorem letters_any (s : ByteArray) (w : World) :
    Calls Tryz.prog 155 #[.string s] w fun e w' => e = .returned (.int .i64 (lsI (bl s))) ∧ w.grownBy w' none := by
  cases h : fOf (bl s) with
  | none =>
    have ht := tree_no s w h
    rw [lsI_f h]
    clear h
    go_enter Tryz.func155, Tryz.ntmps155
    go_wp2_with fail
    refine ht.mono ?_
    rintro e w1 ⟨v, hv, rfl, g1⟩
    go_wp2_with fail
    go_ret
    exact ⟨rfl, g1⟩
  | some t =>
    have ht := tree_yes s w h
    have hl := ls_le t
    have hl2 := (fOf_some h).2
    have ha := ls_all t (by omega)
    have hm := ls_meth t
    have he := ls_enter t
    rw [lsI_t h]
    clear h hl hl2
    go_enter Tryz.func155, Tryz.ntmps155
    go_wp2_with fail
    refine ht.mono ?_
    rintro e w1 ⟨rfl, g1⟩
    clear ht
    go_wp2_with fail
    refine (ha _).mono ?_
    rintro e w2 ⟨rfl, g2⟩
    go_wp2_with fail
    go_ret
    exact ⟨rfl, grownBy_trans g1 g2⟩

end Go.Proofs.YtlnffpofbfigaaaGreatDoor

/-
  impl.ValueAt: the setting, the type switch that asks each node for its value, by induction on the tree. No condition.
-/
namespace Go.Proofs.YtlnffpofbfigaaaGreatDoor
open Go.RowKit Go.Maps Go.Joins

def setV (n a b c : Int) : Value := .agg #[.int .i64 n, .int .i64 a, .int .i64 b, .int .i64 c]

theorem thrB_f1 {n a b c : Int} (h : vokB n a = false) : thrB n a b c = false := by unfold thrB; rw [h]; rfl
theorem thrB_f2 {n a b c : Int} (h : vokB n b = false) : thrB n a b c = false := by unfold thrB; rw [h]; cases vokB n a <;> rfl
theorem thrB_f3 {n a b c : Int} (h : vokB n c = false) : thrB n a b c = false := by unfold thrB; rw [h]; cases vokB n a <;> cases vokB n b <;> rfl

def ORel (n a b c : Int) (i : Value) : Prop :=
  ∃ k : Nat, i = .int .i64 k ∧ (k = 0 ∨ (k = 1 ∧ vokB n a = true) ∨ (k = 2 ∧ vokB n a = true ∧ vokB n b = true) ∨ (k = 3 ∧ vokB n a = true ∧ vokB n b = true ∧ vokB n c = true))

theorem setting_any (n a b c : Int) (w : World) :
    Calls Tryz.prog 159 #[.agg #[.int .i64 n, .int .i64 a, .int .i64 b, .int .i64 c]] w fun e w' => e = .returned (.bool (thrB n a b c)) ∧ w.grownBy w' none := by
  have i0 : ∀ w, (Instr.index 145 (.agg #[.int .i64 a, .int .i64 b, .int .i64 c]) (.int .i64 0)).run Tryz.prog w = .ok (.int .i64 a) w := fun _ => by kernel_rfl
  have i1 : ∀ w, (Instr.index 145 (.agg #[.int .i64 a, .int .i64 b, .int .i64 c]) (.int .i64 1)).run Tryz.prog w = .ok (.int .i64 b) w := fun _ => by kernel_rfl
  have i2 : ∀ w, (Instr.index 145 (.agg #[.int .i64 a, .int .i64 b, .int .i64 c]) (.int .i64 2)).run Tryz.prog w = .ok (.int .i64 c) w := fun _ => by kernel_rfl
  go_enter Tryz.func159, Tryz.ntmps159
  go_wp2_with fail
  go_loop [7] (fun i => ORel n a b c i) (fun i => 3 - (intOf i).toNat)
  case atStart => exact ⟨0, rfl, .inl rfl⟩
  case round =>
    obtain ⟨k, rfl, hk⟩ := hrel
    rcases hk with rfl | ⟨rfl, ha⟩ | ⟨rfl, ha, hb⟩ | ⟨rfl, ha, hb, hc⟩
    · cases h : vokB n a
      · have hz := Lib.hid (thrB_f1 (b := b) (c := c) h)
        go_wp2_with (go_at_call 58; refine (vok_any _ _ _).mono ?_; rintro e w' ⟨rfl, rfl⟩)
        go_ret
        exact ⟨by rw [hz.out]; rfl, World.grownBy_alloc _ _ _⟩
      · go_wp2_with (go_at_call 58; refine (vok_any _ _ _).mono ?_; rintro e w' ⟨rfl, rfl⟩)
        go_round
        case rel => exact ⟨1, rfl, .inr (.inl ⟨rfl, h⟩)⟩
        case measure => simp [intOf]
    · cases h : vokB n b
      · have hz := Lib.hid (thrB_f2 (a := a) (c := c) h)
        go_wp2_with (go_at_call 58; refine (vok_any _ _ _).mono ?_; rintro e w' ⟨rfl, rfl⟩)
        go_ret
        exact ⟨by rw [hz.out]; rfl, World.grownBy_alloc _ _ _⟩
      · have ha' := Lib.hid ha
        go_wp2_with (go_at_call 58; refine (vok_any _ _ _).mono ?_; rintro e w' ⟨rfl, rfl⟩)
        go_round
        case rel => exact ⟨2, rfl, .inr (.inr (.inl ⟨rfl, ha'.out, h⟩))⟩
        case measure => simp [intOf]
    · cases h : vokB n c
      · have hz := Lib.hid (thrB_f3 (a := a) (b := b) h)
        go_wp2_with (go_at_call 58; refine (vok_any _ _ _).mono ?_; rintro e w' ⟨rfl, rfl⟩)
        go_ret
        exact ⟨by rw [hz.out]; rfl, World.grownBy_alloc _ _ _⟩
      · have ha' := Lib.hid ha
        have hb' := Lib.hid hb
        go_wp2_with (go_at_call 58; refine (vok_any _ _ _).mono ?_; rintro e w' ⟨rfl, rfl⟩)
        go_round
        case rel => exact ⟨3, rfl, .inr (.inr (.inr ⟨rfl, ha'.out, hb'.out, h⟩))⟩
        case measure => simp [intOf]
    · have hz := Lib.hid (thrB_mk ha hb hc)
      go_wp2
      go_ret
      exact ⟨by rw [hz.out]; rfl, World.grownBy_alloc _ _ _⟩

theorem as_lt (w : World) (p : Value) : (Instr.typeAssert (.iface 183 p) 131 183 true).run Tryz.prog w = .ok (.tuple #[p, .bool true]) w := by kernel_rfl
theorem as_tru_1 (w : World) (p : Value) : (Instr.typeAssert (.iface 184 p) 131 183 true).run Tryz.prog w = .ok (.tuple #[.int .i64 0, .bool false]) w := by kernel_rfl
theorem as_tru_2 (w : World) (p : Value) : (Instr.typeAssert (.iface 184 p) 131 184 true).run Tryz.prog w = .ok (.tuple #[p, .bool true]) w := by kernel_rfl
theorem as_neg_1 (w : World) (p : Value) : (Instr.typeAssert (.iface 186 p) 131 183 true).run Tryz.prog w = .ok (.tuple #[.int .i64 0, .bool false]) w := by kernel_rfl
theorem as_neg_2 (w : World) (p : Value) : (Instr.typeAssert (.iface 186 p) 131 184 true).run Tryz.prog w = .ok (.tuple #[.bool false, .bool false]) w := by kernel_rfl
theorem as_neg_3 (w : World) (p : Value) : (Instr.typeAssert (.iface 186 p) 131 186 true).run Tryz.prog w = .ok (.tuple #[p, .bool true]) w := by kernel_rfl
theorem as_bin_1 (w : World) (p : Value) : (Instr.typeAssert (.iface 205 p) 131 183 true).run Tryz.prog w = .ok (.tuple #[.int .i64 0, .bool false]) w := by kernel_rfl
theorem as_bin_2 (w : World) (p : Value) : (Instr.typeAssert (.iface 205 p) 131 184 true).run Tryz.prog w = .ok (.tuple #[.bool false, .bool false]) w := by kernel_rfl
theorem as_bin_3 (w : World) (p : Value) : (Instr.typeAssert (.iface 205 p) 131 186 true).run Tryz.prog w = .ok (.tuple #[.agg #[.nilIface], .bool false]) w := by kernel_rfl
theorem as_bin_4 (w : World) (p : Value) : (Instr.typeAssert (.iface 205 p) 131 205 true).run Tryz.prog w = .ok (.tuple #[p, .bool true]) w := by kernel_rfl

def VtOk (n a b c : Int) (t : Tr) : Prop := ∀ w : World, Calls Tryz.prog 160 #[.agg #[.int .i64 n, .int .i64 a, .int .i64 b, .int .i64 c], .iface (nodeT t) (nodeP t)] w fun e w' => e = .returned (.int .i64 (t.val n a b c)) ∧ w.grownBy w' none

theorem vt_lt (n a b c : Int) (k : Lr) : VtOk n a b c (.lt k) := by
  intro w
  have h1 := as_lt
  cases k
  all_goals
    show Calls Tryz.prog 160 #[.agg #[.int .i64 n, .int .i64 a, .int .i64 b, .int .i64 c], .iface 183 (.int .i64 _)] w _
    unfold Lr.num
    go_enter Tryz.func160, Tryz.ntmps160
    go_wp2_with fail
    go_ret
    exact ⟨rfl, World.grownBy_alloc _ _ _⟩

theorem vt_tru (n a b c : Int) (k : Bool) : VtOk n a b c (.tru k) := by
  intro w
  have h1 := as_tru_1
  have h2 := as_tru_2
  cases k
  all_goals
    show Calls Tryz.prog 160 #[.agg #[.int .i64 n, .int .i64 a, .int .i64 b, .int .i64 c], .iface 184 (.bool _)] w _
    go_enter Tryz.func160, Tryz.ntmps160
    go_wp2_with fail
    go_ret
    exact ⟨rfl, World.grownBy_alloc _ _ _⟩

theorem held5 {w0 w1 w2 : World} {a b c d p : Addr} {x y z u v : Value} (h : w1.cell? a = some x ∧ w1.cell? b = some y ∧ w1.cell? c = some z ∧ w1.cell? d = some u ∧ w1.cell? p = some v ∧ w0.grownBy w1 none) (hg : w1.grownBy w2 none) :
    w2.cell? a = some x ∧ w2.cell? b = some y ∧ w2.cell? c = some z ∧ w2.cell? d = some u ∧ w2.cell? p = some v ∧ w0.grownBy w2 none :=
  ⟨cell_grown h.1 hg, cell_grown h.2.1 hg, cell_grown h.2.2.1 hg, cell_grown h.2.2.2.1 hg, cell_grown h.2.2.2.2.1 hg, grownBy_trans h.2.2.2.2.2 hg⟩
theorem held7 {w0 w1 w2 : World} {a b c d p q r : Addr} {x y z u v s t : Value} (h : w1.cell? a = some x ∧ w1.cell? b = some y ∧ w1.cell? c = some z ∧ w1.cell? d = some u ∧ w1.cell? p = some v ∧ w1.cell? q = some s ∧ w1.cell? r = some t ∧ w0.grownBy w1 none) (hg : w1.grownBy w2 none) :
    w2.cell? a = some x ∧ w2.cell? b = some y ∧ w2.cell? c = some z ∧ w2.cell? d = some u ∧ w2.cell? p = some v ∧ w2.cell? q = some s ∧ w2.cell? r = some t ∧ w0.grownBy w2 none :=
  ⟨cell_grown h.1 hg, cell_grown h.2.1 hg, cell_grown h.2.2.1 hg, cell_grown h.2.2.2.1 hg, cell_grown h.2.2.2.2.1 hg, cell_grown h.2.2.2.2.2.1 hg, cell_grown h.2.2.2.2.2.2.1 hg, grownBy_trans h.2.2.2.2.2.2.2 hg⟩

theorem old_cell {w : World} {C : Array Value} {T : TypeId} {i : Nat} {v : Value} (o : Obj) (h : C[i]? = some v) : ((w.alloc (.cells C T)).alloc o).drew.cell? ⟨w.heap.size, i, none⟩ = some v := by
  refine cell_grown (w1 := w.alloc (.cells C T)) ?_ (grownBy_drew (World.grownBy_alloc _ _ _))
  rw [World.cell?_alloc_mark]; exact h
theorem new_cell {w w1 : World} {C : Array Value} {T : TypeId} {i : Nat} {v : Value} (hs : w1.heap.size = w.heap.size + 1) (h : C[i]? = some v) : (w1.alloc (.cells C T)).drew.cell? ⟨w.heap.size + 1, i, none⟩ = some v := by
  have e := World.cell?_alloc_mark w1 C T (0, 0) i
  rw [hs] at e
  exact e.trans h

set_option maxHeartbeats 2000000 in
theorem vt_neg {n a b c : Int} {x : Tr} (ih : VtOk n a b c x) : VtOk n a b c (.neg x) := by
  intro w
  have h1 := as_neg_1
  have h2 := as_neg_2
  have h3 := as_neg_3
  show Calls Tryz.prog 160 #[.agg #[.int .i64 n, .int .i64 a, .int .i64 b, .int .i64 c], .iface 186 (.agg #[.iface (nodeT x) (nodeP x)])] w _
  go_enter Tryz.func160, Tryz.ntmps160
  go_wp2_with fail
  obtain ⟨wb, hwb⟩ : ∃ wb : World, wb = (w.alloc (.cells #[.int .i64 n, .int .i64 a, .int .i64 b, .int .i64 c] 164)).alloc (.cells #[.iface (nodeT x) (nodeP x)] 186) := ⟨_, rfl⟩
  have hb : wb.drew.cell? ⟨w.heap.size, 0, none⟩ = some (.int .i64 n) ∧ wb.drew.cell? ⟨w.heap.size, 1, none⟩ = some (.int .i64 a) ∧ wb.drew.cell? ⟨w.heap.size, 2, none⟩ = some (.int .i64 b) ∧ wb.drew.cell? ⟨w.heap.size, 3, none⟩ = some (.int .i64 c) ∧ wb.drew.cell? ⟨w.heap.size + 1, 0, none⟩ = some (.iface (nodeT x) (nodeP x)) ∧ w.grownBy wb.drew none := by
    rw [hwb]
    exact ⟨old_cell _ rfl, old_cell _ rfl, old_cell _ rfl, old_cell _ rfl, new_cell (by simp) rfl, grownBy_drew (grownBy_trans (World.grownBy_alloc _ _ _) (World.grownBy_alloc _ _ _))⟩
  rw [← hwb]
  clear hwb h1 h2 h3
  go_region_held3 (fun w' => w'.cell? ⟨w.heap.size, 0, none⟩ = some (.int .i64 n) ∧ w'.cell? ⟨w.heap.size, 1, none⟩ = some (.int .i64 a) ∧ w'.cell? ⟨w.heap.size, 2, none⟩ = some (.int .i64 b) ∧ w'.cell? ⟨w.heap.size, 3, none⟩ = some (.int .i64 c) ∧ w'.cell? ⟨w.heap.size + 1, 0, none⟩ = some (.iface (nodeT x) (nodeP x)) ∧ w.grownBy w' none)
    (first | exact hb | exact held5 (by assumption) gx | assumption)
    (first | (go_at_call 193; refine (not_any _ _ _).mono ?_; rintro e w3 ⟨rfl, rfl⟩) | (go_at_call 160; refine (ih _).mono ?_; rintro e w2 ⟨rfl, gx⟩))
  all_goals
    go_wp2_with fail
    go_ret
    exact ⟨rfl, grownBy_trans hb.2.2.2.2.2 gx⟩

set_option maxHeartbeats 4000000 in
theorem vt_fol {n a b c : Int} {x y : Tr} (hx : vokB n (x.val n a b c) = true) (hy : vokB n (y.val n a b c) = true) (ihx : VtOk n a b c x) (ihy : VtOk n a b c y) : VtOk n a b c (.bin .fol x y) := by
  intro w
  have h1 := as_bin_1
  have h2 := as_bin_2
  have h3 := as_bin_3
  have h4 := as_bin_4
  show Calls Tryz.prog 160 #[.agg #[.int .i64 n, .int .i64 a, .int .i64 b, .int .i64 c], .iface 205 (.agg #[.string ⟨#[62]⟩, .func (.func 170) #[] #[], .iface (nodeT x) (nodeP x), .iface (nodeT y) (nodeP y)])] w _
  go_enter Tryz.func160, Tryz.ntmps160
  go_wp2_with fail
  obtain ⟨wb, hwb⟩ : ∃ wb : World, wb = (w.alloc (.cells #[.int .i64 n, .int .i64 a, .int .i64 b, .int .i64 c] 164)).alloc (.cells #[.string ⟨#[62]⟩, .func (.func 170) #[] #[], .iface (nodeT x) (nodeP x), .iface (nodeT y) (nodeP y)] 205) := ⟨_, rfl⟩
  have hb : wb.drew.cell? ⟨w.heap.size, 0, none⟩ = some (.int .i64 n) ∧ wb.drew.cell? ⟨w.heap.size, 1, none⟩ = some (.int .i64 a) ∧ wb.drew.cell? ⟨w.heap.size, 2, none⟩ = some (.int .i64 b) ∧ wb.drew.cell? ⟨w.heap.size, 3, none⟩ = some (.int .i64 c) ∧ wb.drew.cell? ⟨w.heap.size + 1, 1, none⟩ = some (.func (.func 170) #[] #[]) ∧ wb.drew.cell? ⟨w.heap.size + 1, 2, none⟩ = some (.iface (nodeT x) (nodeP x)) ∧ wb.drew.cell? ⟨w.heap.size + 1, 3, none⟩ = some (.iface (nodeT y) (nodeP y)) ∧ w.grownBy wb.drew none := by
    rw [hwb]
    exact ⟨old_cell _ rfl, old_cell _ rfl, old_cell _ rfl, old_cell _ rfl, new_cell (by simp) rfl, new_cell (by simp) rfl, new_cell (by simp) rfl, grownBy_drew (grownBy_trans (World.grownBy_alloc _ _ _) (World.grownBy_alloc _ _ _))⟩
  rw [← hwb]
  clear hwb h1 h2 h3 h4
  have ht := twoB_mk hx hy
  have cx : ∀ w : World, Calls Tryz.prog 160 #[.agg #[.int .i64 n, .int .i64 a, .int .i64 b, .int .i64 c], .iface (nodeT x) (nodeP x)] w fun e w' => e = .returned (.int .i64 (x.val n a b c)) ∧ w.grownBy w' none := ihx
  have cy : ∀ w : World, Calls Tryz.prog 160 #[.agg #[.int .i64 n, .int .i64 a, .int .i64 b, .int .i64 c], .iface (nodeT y) (nodeP y)] w fun e w' => e = .returned (.int .i64 (y.val n a b c)) ∧ w.grownBy w' none := ihy
  clear ihx ihy
  go_region_held3 (fun w' => w'.cell? ⟨w.heap.size, 0, none⟩ = some (.int .i64 n) ∧ w'.cell? ⟨w.heap.size, 1, none⟩ = some (.int .i64 a) ∧ w'.cell? ⟨w.heap.size, 2, none⟩ = some (.int .i64 b) ∧ w'.cell? ⟨w.heap.size, 3, none⟩ = some (.int .i64 c) ∧ w'.cell? ⟨w.heap.size + 1, 1, none⟩ = some (.func (.func 170) #[] #[]) ∧ w'.cell? ⟨w.heap.size + 1, 2, none⟩ = some (.iface (nodeT x) (nodeP x)) ∧ w'.cell? ⟨w.heap.size + 1, 3, none⟩ = some (.iface (nodeT y) (nodeP y)) ∧ w.grownBy w' none)
    (first | exact hb | exact held7 (by assumption) gx | exact held7 (by assumption) gy | assumption)
    (first | (go_at_call 160; (with_reducible refine (cx _).mono ?_); rintro e w2 ⟨rfl, gx⟩) | (go_at_call 160; (with_reducible refine (cy _).mono ?_); rintro e w3 ⟨rfl, gy⟩) | (go_at_call 170; (with_reducible refine (fol_lit n _ _ ht _).mono ?_); rintro e w4 ⟨rfl, rfl⟩))
  all_goals
    go_wp2_with fail
    go_ret
    exact ⟨rfl, grownBy_trans (grownBy_trans hb.2.2.2.2.2.2.2 gx) gy⟩

set_option maxHeartbeats 4000000 in
theorem vt_plus {n a b c : Int} {x y : Tr} (hx : vokB n (x.val n a b c) = true) (hy : vokB n (y.val n a b c) = true) (ihx : VtOk n a b c x) (ihy : VtOk n a b c y) : VtOk n a b c (.bin .plus x y) := by
  intro w
  have h1 := as_bin_1
  have h2 := as_bin_2
  have h3 := as_bin_3
  have h4 := as_bin_4
  show Calls Tryz.prog 160 #[.agg #[.int .i64 n, .int .i64 a, .int .i64 b, .int .i64 c], .iface 205 (.agg #[.string ⟨#[43]⟩, .func (.func 171) #[] #[], .iface (nodeT x) (nodeP x), .iface (nodeT y) (nodeP y)])] w _
  go_enter Tryz.func160, Tryz.ntmps160
  go_wp2_with fail
  obtain ⟨wb, hwb⟩ : ∃ wb : World, wb = (w.alloc (.cells #[.int .i64 n, .int .i64 a, .int .i64 b, .int .i64 c] 164)).alloc (.cells #[.string ⟨#[43]⟩, .func (.func 171) #[] #[], .iface (nodeT x) (nodeP x), .iface (nodeT y) (nodeP y)] 205) := ⟨_, rfl⟩
  have hb : wb.drew.cell? ⟨w.heap.size, 0, none⟩ = some (.int .i64 n) ∧ wb.drew.cell? ⟨w.heap.size, 1, none⟩ = some (.int .i64 a) ∧ wb.drew.cell? ⟨w.heap.size, 2, none⟩ = some (.int .i64 b) ∧ wb.drew.cell? ⟨w.heap.size, 3, none⟩ = some (.int .i64 c) ∧ wb.drew.cell? ⟨w.heap.size + 1, 1, none⟩ = some (.func (.func 171) #[] #[]) ∧ wb.drew.cell? ⟨w.heap.size + 1, 2, none⟩ = some (.iface (nodeT x) (nodeP x)) ∧ wb.drew.cell? ⟨w.heap.size + 1, 3, none⟩ = some (.iface (nodeT y) (nodeP y)) ∧ w.grownBy wb.drew none := by
    rw [hwb]
    exact ⟨old_cell _ rfl, old_cell _ rfl, old_cell _ rfl, old_cell _ rfl, new_cell (by simp) rfl, new_cell (by simp) rfl, new_cell (by simp) rfl, grownBy_drew (grownBy_trans (World.grownBy_alloc _ _ _) (World.grownBy_alloc _ _ _))⟩
  rw [← hwb]
  clear hwb h1 h2 h3 h4
  have ht := twoB_mk hx hy
  have cx : ∀ w : World, Calls Tryz.prog 160 #[.agg #[.int .i64 n, .int .i64 a, .int .i64 b, .int .i64 c], .iface (nodeT x) (nodeP x)] w fun e w' => e = .returned (.int .i64 (x.val n a b c)) ∧ w.grownBy w' none := ihx
  have cy : ∀ w : World, Calls Tryz.prog 160 #[.agg #[.int .i64 n, .int .i64 a, .int .i64 b, .int .i64 c], .iface (nodeT y) (nodeP y)] w fun e w' => e = .returned (.int .i64 (y.val n a b c)) ∧ w.grownBy w' none := ihy
  clear ihx ihy
  go_region_held3 (fun w' => w'.cell? ⟨w.heap.size, 0, none⟩ = some (.int .i64 n) ∧ w'.cell? ⟨w.heap.size, 1, none⟩ = some (.int .i64 a) ∧ w'.cell? ⟨w.heap.size, 2, none⟩ = some (.int .i64 b) ∧ w'.cell? ⟨w.heap.size, 3, none⟩ = some (.int .i64 c) ∧ w'.cell? ⟨w.heap.size + 1, 1, none⟩ = some (.func (.func 171) #[] #[]) ∧ w'.cell? ⟨w.heap.size + 1, 2, none⟩ = some (.iface (nodeT x) (nodeP x)) ∧ w'.cell? ⟨w.heap.size + 1, 3, none⟩ = some (.iface (nodeT y) (nodeP y)) ∧ w.grownBy w' none)
    (first | exact hb | exact held7 (by assumption) gx | exact held7 (by assumption) gy | assumption)
    (first | (go_at_call 160; (with_reducible refine (cx _).mono ?_); rintro e w2 ⟨rfl, gx⟩) | (go_at_call 160; (with_reducible refine (cy _).mono ?_); rintro e w3 ⟨rfl, gy⟩) | (go_at_call 171; (with_reducible refine (plus_lit n _ _ ht _).mono ?_); rintro e w4 ⟨rfl, rfl⟩))
  all_goals
    go_wp2_with fail
    go_ret
    exact ⟨rfl, grownBy_trans (grownBy_trans hb.2.2.2.2.2.2.2 gx) gy⟩

set_option maxHeartbeats 4000000 in
theorem vt_times {n a b c : Int} {x y : Tr} (hx : vokB n (x.val n a b c) = true) (hy : vokB n (y.val n a b c) = true) (ihx : VtOk n a b c x) (ihy : VtOk n a b c y) : VtOk n a b c (.bin .times x y) := by
  intro w
  have h1 := as_bin_1
  have h2 := as_bin_2
  have h3 := as_bin_3
  have h4 := as_bin_4
  show Calls Tryz.prog 160 #[.agg #[.int .i64 n, .int .i64 a, .int .i64 b, .int .i64 c], .iface 205 (.agg #[.string ⟨#[42]⟩, .func (.func 172) #[] #[], .iface (nodeT x) (nodeP x), .iface (nodeT y) (nodeP y)])] w _
  go_enter Tryz.func160, Tryz.ntmps160
  go_wp2_with fail
  obtain ⟨wb, hwb⟩ : ∃ wb : World, wb = (w.alloc (.cells #[.int .i64 n, .int .i64 a, .int .i64 b, .int .i64 c] 164)).alloc (.cells #[.string ⟨#[42]⟩, .func (.func 172) #[] #[], .iface (nodeT x) (nodeP x), .iface (nodeT y) (nodeP y)] 205) := ⟨_, rfl⟩
  have hb : wb.drew.cell? ⟨w.heap.size, 0, none⟩ = some (.int .i64 n) ∧ wb.drew.cell? ⟨w.heap.size, 1, none⟩ = some (.int .i64 a) ∧ wb.drew.cell? ⟨w.heap.size, 2, none⟩ = some (.int .i64 b) ∧ wb.drew.cell? ⟨w.heap.size, 3, none⟩ = some (.int .i64 c) ∧ wb.drew.cell? ⟨w.heap.size + 1, 1, none⟩ = some (.func (.func 172) #[] #[]) ∧ wb.drew.cell? ⟨w.heap.size + 1, 2, none⟩ = some (.iface (nodeT x) (nodeP x)) ∧ wb.drew.cell? ⟨w.heap.size + 1, 3, none⟩ = some (.iface (nodeT y) (nodeP y)) ∧ w.grownBy wb.drew none := by
    rw [hwb]
    exact ⟨old_cell _ rfl, old_cell _ rfl, old_cell _ rfl, old_cell _ rfl, new_cell (by simp) rfl, new_cell (by simp) rfl, new_cell (by simp) rfl, grownBy_drew (grownBy_trans (World.grownBy_alloc _ _ _) (World.grownBy_alloc _ _ _))⟩
  rw [← hwb]
  clear hwb h1 h2 h3 h4
  have ht := twoB_mk hx hy
  have cx : ∀ w : World, Calls Tryz.prog 160 #[.agg #[.int .i64 n, .int .i64 a, .int .i64 b, .int .i64 c], .iface (nodeT x) (nodeP x)] w fun e w' => e = .returned (.int .i64 (x.val n a b c)) ∧ w.grownBy w' none := ihx
  have cy : ∀ w : World, Calls Tryz.prog 160 #[.agg #[.int .i64 n, .int .i64 a, .int .i64 b, .int .i64 c], .iface (nodeT y) (nodeP y)] w fun e w' => e = .returned (.int .i64 (y.val n a b c)) ∧ w.grownBy w' none := ihy
  clear ihx ihy
  go_region_held3 (fun w' => w'.cell? ⟨w.heap.size, 0, none⟩ = some (.int .i64 n) ∧ w'.cell? ⟨w.heap.size, 1, none⟩ = some (.int .i64 a) ∧ w'.cell? ⟨w.heap.size, 2, none⟩ = some (.int .i64 b) ∧ w'.cell? ⟨w.heap.size, 3, none⟩ = some (.int .i64 c) ∧ w'.cell? ⟨w.heap.size + 1, 1, none⟩ = some (.func (.func 172) #[] #[]) ∧ w'.cell? ⟨w.heap.size + 1, 2, none⟩ = some (.iface (nodeT x) (nodeP x)) ∧ w'.cell? ⟨w.heap.size + 1, 3, none⟩ = some (.iface (nodeT y) (nodeP y)) ∧ w.grownBy w' none)
    (first | exact hb | exact held7 (by assumption) gx | exact held7 (by assumption) gy | assumption)
    (first | (go_at_call 160; (with_reducible refine (cx _).mono ?_); rintro e w2 ⟨rfl, gx⟩) | (go_at_call 160; (with_reducible refine (cy _).mono ?_); rintro e w3 ⟨rfl, gy⟩) | (go_at_call 172; (with_reducible refine (times_lit n _ _ ht _).mono ?_); rintro e w4 ⟨rfl, rfl⟩))
  all_goals
    go_wp2_with fail
    go_ret
    exact ⟨rfl, grownBy_trans (grownBy_trans hb.2.2.2.2.2.2.2 gx) gy⟩

set_option maxHeartbeats 4000000 in
theorem vt_less {n a b c : Int} {x y : Tr} (hx : vokB n (x.val n a b c) = true) (hy : vokB n (y.val n a b c) = true) (ihx : VtOk n a b c x) (ihy : VtOk n a b c y) : VtOk n a b c (.bin .less x y) := by
  intro w
  have h1 := as_bin_1
  have h2 := as_bin_2
  have h3 := as_bin_3
  have h4 := as_bin_4
  show Calls Tryz.prog 160 #[.agg #[.int .i64 n, .int .i64 a, .int .i64 b, .int .i64 c], .iface 205 (.agg #[.string ⟨#[38]⟩, .func (.func 173) #[] #[], .iface (nodeT x) (nodeP x), .iface (nodeT y) (nodeP y)])] w _
  go_enter Tryz.func160, Tryz.ntmps160
  go_wp2_with fail
  obtain ⟨wb, hwb⟩ : ∃ wb : World, wb = (w.alloc (.cells #[.int .i64 n, .int .i64 a, .int .i64 b, .int .i64 c] 164)).alloc (.cells #[.string ⟨#[38]⟩, .func (.func 173) #[] #[], .iface (nodeT x) (nodeP x), .iface (nodeT y) (nodeP y)] 205) := ⟨_, rfl⟩
  have hb : wb.drew.cell? ⟨w.heap.size, 0, none⟩ = some (.int .i64 n) ∧ wb.drew.cell? ⟨w.heap.size, 1, none⟩ = some (.int .i64 a) ∧ wb.drew.cell? ⟨w.heap.size, 2, none⟩ = some (.int .i64 b) ∧ wb.drew.cell? ⟨w.heap.size, 3, none⟩ = some (.int .i64 c) ∧ wb.drew.cell? ⟨w.heap.size + 1, 1, none⟩ = some (.func (.func 173) #[] #[]) ∧ wb.drew.cell? ⟨w.heap.size + 1, 2, none⟩ = some (.iface (nodeT x) (nodeP x)) ∧ wb.drew.cell? ⟨w.heap.size + 1, 3, none⟩ = some (.iface (nodeT y) (nodeP y)) ∧ w.grownBy wb.drew none := by
    rw [hwb]
    exact ⟨old_cell _ rfl, old_cell _ rfl, old_cell _ rfl, old_cell _ rfl, new_cell (by simp) rfl, new_cell (by simp) rfl, new_cell (by simp) rfl, grownBy_drew (grownBy_trans (World.grownBy_alloc _ _ _) (World.grownBy_alloc _ _ _))⟩
  rw [← hwb]
  clear hwb h1 h2 h3 h4
  have ht := twoB_mk hx hy
  have cx : ∀ w : World, Calls Tryz.prog 160 #[.agg #[.int .i64 n, .int .i64 a, .int .i64 b, .int .i64 c], .iface (nodeT x) (nodeP x)] w fun e w' => e = .returned (.int .i64 (x.val n a b c)) ∧ w.grownBy w' none := ihx
  have cy : ∀ w : World, Calls Tryz.prog 160 #[.agg #[.int .i64 n, .int .i64 a, .int .i64 b, .int .i64 c], .iface (nodeT y) (nodeP y)] w fun e w' => e = .returned (.int .i64 (y.val n a b c)) ∧ w.grownBy w' none := ihy
  clear ihx ihy
  go_region_held3 (fun w' => w'.cell? ⟨w.heap.size, 0, none⟩ = some (.int .i64 n) ∧ w'.cell? ⟨w.heap.size, 1, none⟩ = some (.int .i64 a) ∧ w'.cell? ⟨w.heap.size, 2, none⟩ = some (.int .i64 b) ∧ w'.cell? ⟨w.heap.size, 3, none⟩ = some (.int .i64 c) ∧ w'.cell? ⟨w.heap.size + 1, 1, none⟩ = some (.func (.func 173) #[] #[]) ∧ w'.cell? ⟨w.heap.size + 1, 2, none⟩ = some (.iface (nodeT x) (nodeP x)) ∧ w'.cell? ⟨w.heap.size + 1, 3, none⟩ = some (.iface (nodeT y) (nodeP y)) ∧ w.grownBy w' none)
    (first | exact hb | exact held7 (by assumption) gx | exact held7 (by assumption) gy | assumption)
    (first | (go_at_call 160; (with_reducible refine (cx _).mono ?_); rintro e w2 ⟨rfl, gx⟩) | (go_at_call 160; (with_reducible refine (cy _).mono ?_); rintro e w3 ⟨rfl, gy⟩) | (go_at_call 173; (with_reducible refine (less_lit n _ _ ht _).mono ?_); rintro e w4 ⟨rfl, rfl⟩))
  all_goals
    go_wp2_with fail
    go_ret
    exact ⟨rfl, grownBy_trans (grownBy_trans hb.2.2.2.2.2.2.2 gx) gy⟩

set_option maxHeartbeats 4000000 in
theorem vt_great {n a b c : Int} {x y : Tr} (hx : vokB n (x.val n a b c) = true) (hy : vokB n (y.val n a b c) = true) (ihx : VtOk n a b c x) (ihy : VtOk n a b c y) : VtOk n a b c (.bin .great x y) := by
  intro w
  have h1 := as_bin_1
  have h2 := as_bin_2
  have h3 := as_bin_3
  have h4 := as_bin_4
  show Calls Tryz.prog 160 #[.agg #[.int .i64 n, .int .i64 a, .int .i64 b, .int .i64 c], .iface 205 (.agg #[.string ⟨#[124]⟩, .func (.func 174) #[] #[], .iface (nodeT x) (nodeP x), .iface (nodeT y) (nodeP y)])] w _
  go_enter Tryz.func160, Tryz.ntmps160
  go_wp2_with fail
  obtain ⟨wb, hwb⟩ : ∃ wb : World, wb = (w.alloc (.cells #[.int .i64 n, .int .i64 a, .int .i64 b, .int .i64 c] 164)).alloc (.cells #[.string ⟨#[124]⟩, .func (.func 174) #[] #[], .iface (nodeT x) (nodeP x), .iface (nodeT y) (nodeP y)] 205) := ⟨_, rfl⟩
  have hb : wb.drew.cell? ⟨w.heap.size, 0, none⟩ = some (.int .i64 n) ∧ wb.drew.cell? ⟨w.heap.size, 1, none⟩ = some (.int .i64 a) ∧ wb.drew.cell? ⟨w.heap.size, 2, none⟩ = some (.int .i64 b) ∧ wb.drew.cell? ⟨w.heap.size, 3, none⟩ = some (.int .i64 c) ∧ wb.drew.cell? ⟨w.heap.size + 1, 1, none⟩ = some (.func (.func 174) #[] #[]) ∧ wb.drew.cell? ⟨w.heap.size + 1, 2, none⟩ = some (.iface (nodeT x) (nodeP x)) ∧ wb.drew.cell? ⟨w.heap.size + 1, 3, none⟩ = some (.iface (nodeT y) (nodeP y)) ∧ w.grownBy wb.drew none := by
    rw [hwb]
    exact ⟨old_cell _ rfl, old_cell _ rfl, old_cell _ rfl, old_cell _ rfl, new_cell (by simp) rfl, new_cell (by simp) rfl, new_cell (by simp) rfl, grownBy_drew (grownBy_trans (World.grownBy_alloc _ _ _) (World.grownBy_alloc _ _ _))⟩
  rw [← hwb]
  clear hwb h1 h2 h3 h4
  have ht := twoB_mk hx hy
  have cx : ∀ w : World, Calls Tryz.prog 160 #[.agg #[.int .i64 n, .int .i64 a, .int .i64 b, .int .i64 c], .iface (nodeT x) (nodeP x)] w fun e w' => e = .returned (.int .i64 (x.val n a b c)) ∧ w.grownBy w' none := ihx
  have cy : ∀ w : World, Calls Tryz.prog 160 #[.agg #[.int .i64 n, .int .i64 a, .int .i64 b, .int .i64 c], .iface (nodeT y) (nodeP y)] w fun e w' => e = .returned (.int .i64 (y.val n a b c)) ∧ w.grownBy w' none := ihy
  clear ihx ihy
  go_region_held3 (fun w' => w'.cell? ⟨w.heap.size, 0, none⟩ = some (.int .i64 n) ∧ w'.cell? ⟨w.heap.size, 1, none⟩ = some (.int .i64 a) ∧ w'.cell? ⟨w.heap.size, 2, none⟩ = some (.int .i64 b) ∧ w'.cell? ⟨w.heap.size, 3, none⟩ = some (.int .i64 c) ∧ w'.cell? ⟨w.heap.size + 1, 1, none⟩ = some (.func (.func 174) #[] #[]) ∧ w'.cell? ⟨w.heap.size + 1, 2, none⟩ = some (.iface (nodeT x) (nodeP x)) ∧ w'.cell? ⟨w.heap.size + 1, 3, none⟩ = some (.iface (nodeT y) (nodeP y)) ∧ w.grownBy w' none)
    (first | exact hb | exact held7 (by assumption) gx | exact held7 (by assumption) gy | assumption)
    (first | (go_at_call 160; (with_reducible refine (cx _).mono ?_); rintro e w2 ⟨rfl, gx⟩) | (go_at_call 160; (with_reducible refine (cy _).mono ?_); rintro e w3 ⟨rfl, gy⟩) | (go_at_call 174; (with_reducible refine (great_lit n _ _ ht _).mono ?_); rintro e w4 ⟨rfl, rfl⟩))
  all_goals
    go_wp2_with fail
    go_ret
    exact ⟨rfl, grownBy_trans (grownBy_trans hb.2.2.2.2.2.2.2 gx) gy⟩

theorem vt_bin {n a b c : Int} {g : Sg} {x y : Tr} (hx : vokB n (x.val n a b c) = true) (hy : vokB n (y.val n a b c) = true) (ihx : VtOk n a b c x) (ihy : VtOk n a b c y) : VtOk n a b c (.bin g x y) := by
  cases g
  · exact vt_fol hx hy ihx ihy
  · exact vt_plus hx hy ihx ihy
  · exact vt_times hx hy ihx ihy
  · exact vt_less hx hy ihx ihy
  · exact vt_great hx hy ihx ihy

theorem vt_all {n a b c : Int} (h : thrB n a b c = true) : ∀ t : Tr, VtOk n a b c t := by
  intro t
  induction t with
  | lt k => exact vt_lt n a b c k
  | tru b => exact vt_tru n a _ c b
  | neg x ih => exact vt_neg ih
  | bin g x y ihx ihy => exact vt_bin (val_ok h x) (val_ok h y) ihx ihy

theorem set_cells {n a b c : Int} {w w1 : World} (hg : (w.alloc (.cells #[.int .i64 n, .int .i64 a, .int .i64 b, .int .i64 c] 164)).grownBy w1 none) :
    w1.cell? ⟨w.heap.size, 0, none⟩ = some (.int .i64 n) ∧ w1.cell? ⟨w.heap.size, 1, none⟩ = some (.int .i64 a) ∧ w1.cell? ⟨w.heap.size, 2, none⟩ = some (.int .i64 b) ∧ w1.cell? ⟨w.heap.size, 3, none⟩ = some (.int .i64 c) :=
  ⟨cell_grown (World.cell?_alloc_mark w _ _ _ _) hg, cell_grown (World.cell?_alloc_mark w _ _ _ _) hg, cell_grown (World.cell?_alloc_mark w _ _ _ _) hg, cell_grown (World.cell?_alloc_mark w _ _ _ _) hg⟩

theorem value_no (n : Int) (s : ByteArray) (a b c : Int) (w : World) (h : fOf (bl s) = none) :
    Calls Tryz.prog 132 #[.int .i64 n, .string s, .int .i64 a, .int .i64 b, .int .i64 c] w fun e w' => e = .returned (.int .i64 (-1)) ∧ w.grownBy w' none := by
  have ht := fun w => tree_no s w h
  clear h
  go_enter Tryz.func132, Tryz.ntmps132
  go_wp2_with fail
  refine (ht _).mono ?_
  rintro e w1 ⟨v, hv, rfl, g1⟩
  clear ht hv
  go_wp2_with fail
  go_ret
  exact ⟨rfl, grownBy_trans (World.grownBy_alloc _ _ _) g1⟩

theorem value_out (n : Int) (s : ByteArray) (a b c : Int) (w : World) {t : Tr} (h : fOf (bl s) = some t) (hc : thrB n a b c = false) :
    Calls Tryz.prog 132 #[.int .i64 n, .string s, .int .i64 a, .int .i64 b, .int .i64 c] w fun e w' => e = .returned (.int .i64 (-1)) ∧ w.grownBy w' none := by
  have ht := fun w => tree_yes s w h
  have hs := fun w => setting_any n a b c w
  rw [hc] at hs
  clear h hc
  go_enter Tryz.func132, Tryz.ntmps132
  go_wp2_with fail
  refine (ht _).mono ?_
  rintro e w1 ⟨rfl, g1⟩
  obtain ⟨k0, k1, k2, k3⟩ := set_cells g1
  clear ht
  go_wp2_with fail
  refine (hs _).mono ?_
  rintro e w2 ⟨rfl, g2⟩
  go_wp2_with fail
  go_ret
  exact ⟨rfl, grownBy_trans (grownBy_trans (World.grownBy_alloc _ _ _) g1) g2⟩

theorem value_in (n : Int) (s : ByteArray) (a b c : Int) (w : World) {t : Tr} (h : fOf (bl s) = some t) (hc : thrB n a b c = true) :
    Calls Tryz.prog 132 #[.int .i64 n, .string s, .int .i64 a, .int .i64 b, .int .i64 c] w fun e w' => e = .returned (.int .i64 (t.val n a b c)) ∧ w.grownBy w' none := by
  have ht := fun w => tree_yes s w h
  have hs := fun w => setting_any n a b c w
  have hv := vt_all hc t
  unfold VtOk at hv
  rw [hc] at hs
  clear h hc
  go_enter Tryz.func132, Tryz.ntmps132
  go_wp2_with fail
  refine (ht _).mono ?_
  rintro e w1 ⟨rfl, g1⟩
  obtain ⟨k0, k1, k2, k3⟩ := set_cells g1
  clear ht
  go_wp2_with fail
  refine (hs _).mono ?_
  rintro e w2 ⟨rfl, g2⟩
  have j0 := cell_grown k0 g2
  have j1 := cell_grown k1 g2
  have j2 := cell_grown k2 g2
  have j3 := cell_grown k3 g2
  clear hs k0 k1 k2 k3
  go_wp2_with fail
  refine (hv _).mono ?_
  rintro e w3 ⟨rfl, g3⟩
  clear hv
  go_wp2_with fail
  go_ret
  exact ⟨rfl, grownBy_trans (grownBy_trans (grownBy_trans (World.grownBy_alloc _ _ _) g1) g2) g3⟩

theorem value_any (n : Int) (s : ByteArray) (a b c : Int) (w : World) :
    Calls Tryz.prog 132 #[.int .i64 n, .string s, .int .i64 a, .int .i64 b, .int .i64 c] w fun e w' => e = .returned (.int .i64 (valI n (bl s) a b c)) ∧ w.grownBy w' none := by
  cases h : fOf (bl s) with
  | none => rw [valI_n h]; exact value_no n s a b c w h
  | some t =>
    cases hc : thrB n a b c
    · rw [valI_f hc]; exact value_out n s a b c w h hc
    · rw [valI_t h hc]; exact value_in n s a b c w h hc

end Go.Proofs.YtlnffpofbfigaaaGreatDoor

/-
  impl.settings and the function that it hands back: it yields all values of the letters, by a, then by b, then by c: for every loop body that keeps what lay. The chain has 1 to 6 steps.
-/
namespace Go.Proofs.YtlnffpofbfigaaaGreatDoor
open Go.RowKit Go.Shelf
attribute [local go_sem] Oper.semAt_some

theorem settings_any (F : Fence) (n : Nat) (h : F.fn 186) (hro : F.round = none) (N : Int) (w : World) :
    CallsIn F n Tryz.prog 186 #[.int .i64 N] w fun e w' => e = .returned (.func (.func 206) #[] #[.pointer (some ⟨w.heap.size, 0, none⟩)]) ∧ w' = w.alloc (.cells #[.int .i64 N] 3) := by
  refine callsIn_of_wp Tryz.func186 rfl h ?_ hro
  simp only [Tryz.ntmps186, List.size_toArray, List.length_cons, List.length_nil, Nat.reduceAdd, Nat.reduceSub, Array.replicate_succ, Array.replicate_zero, List.push_toArray, List.append_toArray, List.nil_append, List.cons_append]
  gi_wp2
  go_ret
  exact ⟨rfl, rfl⟩

/-- What a round keeps: the cell that the function reads. -/
def KpC (B : Nat) (X Y : World) : Prop := Y.cell? ⟨B, 0, none⟩ = X.cell? ⟨B, 0, none⟩
theorem kpC_t {B : Nat} {X Y Z : World} (h : KpC B X Y) (k : KpC B Y Z) : KpC B X Z := Eq.trans k h
theorem kpC_b {B : Nat} {w : World} (hB : B < w.heap.size) (W : World) (l : Nat) (o o' : Obj) (hl : w.heap.size ≤ l) (_ : W.heap[l]? = some o) (_ : o.isCells = false) (_ : o.isWalk = false) : KpC B W (W.putObj l o') :=
  World.cell?_of_block (World.putObj_heap_other (by show B ≠ l; omega))
theorem KpC.grown {B : Nat} {X Y : World} (hB : B < X.heap.size) (h : X.grownBy Y none) : KpC B X Y := World.cell?_of_block (h.block B hB (by simp))
theorem KpC.set {B : Nat} (X : World) {a : Addr} (h : a.block ≠ B) (v : Value) : KpC B X (X.setCell a v) := by unfold KpC; rw [World.cell?_setCell_other]; exact fun e => h (by rw [e])

/-- The settings' value at a place. -/
def encK (N : Nat) (k : Nat) : Array Value := #[.agg #[.int .i64 N, .int .i64 (tA N k), .int .i64 (tB N k), .int .i64 (tC N k)]]

set_option maxRecDepth 100000 in
set_option maxHeartbeats 2000000 in
theorem iter_in (F : Fence) (n : Nat) (h : F.fn 206) (hro : F.round = none) (hn : 1 ≤ n) (l Bs N : Nat) (hN : 1 ≤ N ∧ N ≤ 6) (J Jx : List Nat → World → Prop)
    (hY : ∀ pre x W, J pre W → pre.length < cub N → YieldAt F (n - 1) Tryz.prog l (encK N x) W fun e W' =>
      (e = .returned (.bool true) ∧ J (pre ++ [x]) W' ∧ KpC Bs W W') ∨ (e = .returned (.bool false) ∧ Jx (pre ++ [x]) W'))
    (W : World) (hBs : W.cell? ⟨Bs, 0, none⟩ = some (.int .i64 N)) (h0 : J [] W) :
    CallsIn F n Tryz.prog 206 #[.func (.yield l) #[] #[], .pointer (some ⟨Bs, 0, none⟩)] W fun e W' => (∃ v, e = .returned v) ∧
      ((∃ ys, ys = List.range (cub N) ∧ J ys W') ∨ (∃ pre, (∃ k, k < cub N ∧ pre = List.range (k + 1)) ∧ Jx pre W')) := by
  refine callsIn_of_wp Tryz.func206 rfl h ?_ hro
  simp only [Tryz.ntmps206, List.size_toArray, List.length_cons, List.length_nil, Nat.reduceAdd, Nat.reduceSub, Array.replicate_succ, Array.replicate_zero, List.push_toArray, List.append_toArray, List.nil_append, List.cons_append]
  gi_wp2
  gi_loopw [8] (fun i wr => ∃ a : Nat, a ≤ N + 1 ∧ i = .int .i64 a ∧ J (List.range (idx N a 0 0)) wr ∧ wr.cell? ⟨Bs, 0, none⟩ = some (.int .i64 N))
    (fun i _ => N + 1 - (intOf i).toNat)
  case atStart => exact ⟨0, by omega, rfl, by rw [idx_0]; exact h0, hBs⟩
  case round =>
    obtain ⟨a, ha, rfl, hJs, hnx⟩ := hrel
    have hs : wr.cell? ⟨Bs, 0, none⟩ = some (.int .i64 N) := hnx
    by_cases hlt : a < N + 1
    · have da : decide ((a : Int) < (N : Int) + 1) = true := decide_eq_true (by omega)
      gi_wp2
      gi_loopw [13] (fun i wq => ∃ b : Nat, b ≤ N + 1 ∧ i = .int .i64 b ∧ J (List.range (idx N a b 0)) wq ∧ wq.cell? ⟨Bs, 0, none⟩ = some (.int .i64 N))
        (fun i _ => N + 1 - (intOf i).toNat)
      case atStart => exact ⟨0, by omega, rfl, hJs, hnx⟩
      case round =>
        obtain ⟨b, hb, rfl, hJb, hnb⟩ := hrel
        have hsb : wr.cell? ⟨Bs, 0, none⟩ = some (.int .i64 N) := hnb
        by_cases hltb : b < N + 1
        · have db : decide ((b : Int) < (N : Int) + 1) = true := decide_eq_true (by omega)
          gi_wp2
          gi_loopw [18] (fun i wq => ∃ c : Nat, c ≤ N + 1 ∧ i = .int .i64 c ∧ J (List.range (idx N a b c)) wq ∧ wq.cell? ⟨Bs, 0, none⟩ = some (.int .i64 N))
            (fun i _ => N + 1 - (intOf i).toNat)
          case atStart => exact ⟨0, by omega, rfl, hJb, hnb⟩
          case round =>
            obtain ⟨c, hc, rfl, hJc, hnc⟩ := hrel
            have hsc : wr.cell? ⟨Bs, 0, none⟩ = some (.int .i64 N) := hnc
            by_cases hltc : c < N + 1
            · have dc : decide ((c : Int) < (N : Int) + 1) = true := decide_eq_true (by omega)
              have hlen : (List.range (idx N a b c)).length < cub N := by rw [List.length_range]; exact idx_lt (by omega) (by omega) (by omega)
              obtain ⟨fn, tmps, assign, body, hy, hR⟩ := hY _ (idx N a b c) wr hJc hlen
              unfold encK at hy
              rw [idx_A (by omega) (by omega) (by omega), idx_B (by omega) (by omega), idx_C (by omega)] at hy
              gi_wp2
              refine hR.mono ?_
              rintro e W3 (⟨rfl, hJ3, hk3⟩ | ⟨rfl, hJx3⟩)
              · gi_wp2
                go_roundw
                case rel => exact ⟨c + 1, by omega, by simp, by rw [idx_c, List.range_succ]; exact hJ3, Eq.trans hk3 hnc⟩
                case measure => simp [intOf]; omega
              · gi_wp2
                refine bodyPost_ret (results_none rfl _ _ _) rfl ?_
                exact ⟨⟨_, rfl⟩, .inr ⟨_, ⟨idx N a b c, idx_lt (by omega) (by omega) (by omega), List.range_succ.symm⟩, hJx3⟩⟩
            · obtain rfl : c = N + 1 := by omega
              rw [← idx_b] at hJc
              gi_wp2
              go_roundw
              case rel => exact ⟨b + 1, by omega, by simp, hJc, hnc⟩
              case measure => simp [intOf]; omega
        · obtain rfl : b = N + 1 := by omega
          rw [← idx_a] at hJb
          gi_wp2
          go_roundw
          case rel => exact ⟨a + 1, by omega, by simp, hJb, hnb⟩
          case measure => simp [intOf]; omega
    · obtain rfl : a = N + 1 := by omega
      rw [idx_end] at hJs
      gi_wp2
      go_end0
      exact ⟨⟨_, rfl⟩, .inl ⟨_, rfl, hJs⟩⟩

theorem settings_stops (F : Fence) (n : Nat) (h : F.fn 206) (hro : F.round = none) (hn : 1 ≤ n) (Bs N : Nat) (hN : 1 ≤ N ∧ N ≤ 6) (w : World) (hB : Bs < w.heap.size)
    (hc : w.cell? ⟨Bs, 0, none⟩ = some (.int .i64 N)) :
    SeqStopsK F n Tryz.prog 206 #[.pointer (some ⟨Bs, 0, none⟩)] (encK N) (KpC Bs) (fun ys => ys = List.range (cub N)) (fun pre => ∃ k, k < cub N ∧ pre = List.range (k + 1)) (cub N) w := fun l J Jx W hW _ _ hY h0 =>
  iter_in F n h hro hn l Bs N hN J Jx hY W ((hW.cell (p := ⟨Bs, 0, none⟩) hB).trans hc) h0

end Go.Proofs.YtlnffpofbfigaaaGreatDoor

/-
  impl.against: the first values for which a formula is not true: a loop over what impl.settings yields, left by its label. The chain has 1 to 6 steps.
-/
namespace Go.Proofs.YtlnffpofbfigaaaGreatDoor
open Go.RowKit Go.Shelf
attribute [local go_sem] Oper.semAt_some

/-- A block of cells, as it lies. -/
def BlkAt (W : World) (b : Nat) (vs : Array Value) (T : TypeId) : Prop := W.heap[b]? = some (.cells vs T (0, 0))
theorem BlkAt.new (W : World) (vs : Array Value) (T : TypeId) : BlkAt (W.alloc (.cells vs T)) W.heap.size vs T := World.alloc_heap_new W _
theorem BlkAt.lt {W : World} {b : Nat} {vs : Array Value} {T : TypeId} (h : BlkAt W b vs T) : b < W.heap.size := (Array.getElem?_eq_some_iff.1 h).1
theorem BlkAt.kept {W W' : World} {row : Option Nat} {b : Nat} {vs : Array Value} {T : TypeId} (h : BlkAt W b vs T) (hg : W.grownBy W' row) (hne : some b ≠ row) : BlkAt W' b vs T := (hg.block b h.lt hne).trans h
theorem BlkAt.grown {W W' : World} {b : Nat} {vs : Array Value} {T : TypeId} (h : BlkAt W b vs T) (hg : W.grownBy W' none) : BlkAt W' b vs T := h.kept hg (by simp)
theorem BlkAt.alloc {W : World} {b : Nat} {vs : Array Value} {T : TypeId} (h : BlkAt W b vs T) (o : Obj) : BlkAt (W.alloc o) b vs T := h.grown (World.grownBy_alloc W o none)
theorem BlkAt.cell {W : World} {b : Nat} {vs : Array Value} {T : TypeId} (h : BlkAt W b vs T) {i : Nat} {v : Value} (hi : vs[i]? = some v) : W.cell? ⟨b, i, none⟩ = some v := by
  simp [World.cell?, show W.heap[b]? = _ from h, hi]
theorem BlkAt.frozen {W : World} {b : Nat} {vs : Array Value} {T : TypeId} (h : BlkAt W b vs T) (i : Nat) : W.frozen? ⟨b, i, none⟩ = false := by
  simp [World.frozen?, show W.heap[b]? = _ from h]
theorem BlkAt.set {W : World} {b : Nat} {vs : Array Value} {T : TypeId} (h : BlkAt W b vs T) (i : Nat) (v : Value) : BlkAt (W.setCell ⟨b, i, none⟩ v) b (vs.setIfInBounds i v) T := by
  unfold BlkAt World.setCell
  simp only [Array.getElem?_modify, if_true, show W.heap[b]? = _ from h, Option.map_some]
  rfl
theorem BlkAt.other {W : World} {b : Nat} {vs : Array Value} {T : TypeId} (h : BlkAt W b vs T) {a : Addr} (hne : a.block ≠ b) (v : Value) : BlkAt (W.setCell a v) b vs T := by
  unfold BlkAt World.setCell
  simp only [Array.getElem?_modify, if_neg hne]
  exact h
theorem blk_own {β : Type} (b : Nat) (T : TypeId) (f : β → Array Value) : Own (fun s W => BlkAt W b (f s) T) := fun s X Y row hs hg hrow =>
  hs.kept hg (fun e' => by obtain ⟨o, ho, hc⟩ := hrow b e'.symm; rw [show X.heap[b]? = _ from hs] at ho; cases ho; cases hc)
theorem Own.and {β : Type} {I I' : β → World → Prop} (h : Own I) (h' : Own I') : Own (fun s W => I s W ∧ I' s W) := fun s W W' row hs hg hr => ⟨h s W W' row hs.1 hg hr, h' s W W' row hs.2 hg hr⟩
theorem own_pure {β : Type} (p : β → Prop) : Own (fun s (_ : World) => p s) := fun _ _ _ _ hs _ _ => hs

def zero4 : Array Value := #[.int .i64 0, .int .i64 0, .int .i64 0, .int .i64 0]
def set4 (N k : Nat) : Array Value := #[.int .i64 N, .int .i64 (tA N k), .int .i64 (tB N k), .int .i64 (tC N k)]

/-- What lies before impl.against's loop, from block b on. -/
def AgBlk (b N : Nat) (t : Tr) (F : Array Value) (f : Bool) (W : World) : Prop :=
  BlkAt W b #[.int .i64 N] 3 ∧ BlkAt W (b + 1) #[.iface (nodeT t) (nodeP t)] 131 ∧ BlkAt W (b + 1 + 1) zero4 164 ∧ BlkAt W (b + 1 + 1 + 1) F 164 ∧ BlkAt W (b + 1 + 1 + 1 + 1) #[.bool f] 4 ∧ BlkAt W (b + 1 + 1 + 1 + 1 + 1) #[.int .i64 N] 3
theorem AgBlk.grown {b N : Nat} {t : Tr} {F : Array Value} {f : Bool} {W W' : World} (h : AgBlk b N t F f W) (hg : W.grownBy W' none) : AgBlk b N t F f W' :=
  ⟨h.1.grown hg, h.2.1.grown hg, h.2.2.1.grown hg, h.2.2.2.1.grown hg, h.2.2.2.2.1.grown hg, h.2.2.2.2.2.grown hg⟩
theorem AgBlk.own {β : Type} (b N : Nat) (t : Tr) (F : β → Array Value) (f : Bool) : Own (fun s W => AgBlk b N t (F s) f W) :=
  Own.and (blk_own _ _ _) (Own.and (blk_own _ _ _) (Own.and (blk_own _ _ _) (Own.and (blk_own _ _ F) (Own.and (blk_own _ _ _) (blk_own _ _ _)))))
theorem AgBlk.made (N : Nat) (t : Tr) (w : World) : AgBlk w.heap.size N t zero4 false ((((((w.alloc (.cells #[.int .i64 N] 3)).alloc (.cells #[.iface (nodeT t) (nodeP t)] 131)).alloc (.cells #[.int .i64 0, .int .i64 0, .int .i64 0, .int .i64 0] 164)).alloc (.cells #[.int .i64 0, .int .i64 0, .int .i64 0, .int .i64 0] 164)).alloc (.cells #[.bool false] 4)).alloc (.cells #[.int .i64 N] 3)) := by
  have h0 := BlkAt.new w #[.int .i64 N] 3
  generalize hw0 : w.alloc (.cells #[.int .i64 N] 3) = w0 at *
  have e0 : w0.heap.size = w.heap.size + 1 := by rw [← hw0]; simp
  have h1 := BlkAt.new w0 #[.iface (nodeT t) (nodeP t)] 131
  have k0 := h0.alloc (.cells #[.iface (nodeT t) (nodeP t)] 131)
  generalize hw1 : w0.alloc (.cells #[.iface (nodeT t) (nodeP t)] 131) = w1 at *
  have e1 : w1.heap.size = w.heap.size + 1 + 1 := by rw [← hw1]; simp [e0]
  have h2 := BlkAt.new w1 #[.int .i64 0, .int .i64 0, .int .i64 0, .int .i64 0] 164
  generalize hw2 : w1.alloc (.cells #[.int .i64 0, .int .i64 0, .int .i64 0, .int .i64 0] 164) = w2 at *
  have g2 : w1.grownBy w2 none := by rw [← hw2]; exact World.grownBy_alloc _ _ none
  have e2 : w2.heap.size = w.heap.size + 1 + 1 + 1 := by rw [← hw2]; simp [e1]
  have h3 := BlkAt.new w2 #[.int .i64 0, .int .i64 0, .int .i64 0, .int .i64 0] 164
  generalize hw3 : w2.alloc (.cells #[.int .i64 0, .int .i64 0, .int .i64 0, .int .i64 0] 164) = w3 at *
  have g3 : w2.grownBy w3 none := by rw [← hw3]; exact World.grownBy_alloc _ _ none
  have e3 : w3.heap.size = w.heap.size + 1 + 1 + 1 + 1 := by rw [← hw3]; simp [e2]
  have h4 := BlkAt.new w3 #[.bool false] 4
  generalize hw4 : w3.alloc (.cells #[.bool false] 4) = w4 at *
  have g4 : w3.grownBy w4 none := by rw [← hw4]; exact World.grownBy_alloc _ _ none
  have e4 : w4.heap.size = w.heap.size + 1 + 1 + 1 + 1 + 1 := by rw [← hw4]; simp [e3]
  have h5 := BlkAt.new w4 #[.int .i64 N] 3
  have g5 : w4.grownBy (w4.alloc (.cells #[.int .i64 N] 3)) none := World.grownBy_alloc _ _ none
  rw [e0] at h1
  rw [e1] at h2
  rw [e2] at h3
  rw [e3] at h4
  rw [e4] at h5
  have g := grownBy_trans g2 (grownBy_trans g3 (grownBy_trans g4 g5))
  exact ⟨k0.grown g, h1.grown g, h2.grown (grownBy_trans g3 (grownBy_trans g4 g5)), h3.grown (grownBy_trans g4 g5), h4.grown g5, h5⟩

/-- The first values and the sign that there are some, stored. -/
theorem AgBlk.left {b N : Nat} {t : Tr} {W : World} (h : AgBlk b N t zero4 false W) (x : Nat) :
    AgBlk b N t (set4 N x) true (((((W.setCell ⟨b + 1 + 1 + 1, 0, none⟩ (.int .i64 N)).setCell ⟨b + 1 + 1 + 1, 1, none⟩ (.int .i64 (tA N x))).setCell ⟨b + 1 + 1 + 1, 2, none⟩ (.int .i64 (tB N x))).setCell ⟨b + 1 + 1 + 1, 3, none⟩ (.int .i64 (tC N x))).setCell ⟨b + 1 + 1 + 1 + 1, 0, none⟩ (.bool true)) := by
  obtain ⟨h0, h1, h2, h3, h4, h5⟩ := h
  refine ⟨?_, ?_, ?_, ?_, ?_, ?_⟩
  · exact ((((h0.other (by simp <;> omega) _).other (by simp <;> omega) _).other (by simp <;> omega) _).other (by simp <;> omega) _).other (by simp <;> omega) _
  · exact ((((h1.other (by simp <;> omega) _).other (by simp <;> omega) _).other (by simp <;> omega) _).other (by simp <;> omega) _).other (by simp <;> omega) _
  · exact ((((h2.other (by simp <;> omega) _).other (by simp <;> omega) _).other (by simp <;> omega) _).other (by simp <;> omega) _).other (by simp <;> omega) _
  · exact ((((h3.set 0 _).set 1 _).set 2 _).set 3 _).other (by simp <;> omega) _
  · exact ((((h4.other (by simp <;> omega) _).other (by simp <;> omega) _).other (by simp <;> omega) _).other (by simp <;> omega) _).set 0 _
  · exact ((((h5.other (by simp <;> omega) _).other (by simp <;> omega) _).other (by simp <;> omega) _).other (by simp <;> omega) _).other (by simp <;> omega) _

theorem grown_of {w w' : World} (h : Below w.heap.size w w') : w.grownBy w' none := ⟨h.os, h.tape, h.output, h.size, fun k hk _ => h.block k hk⟩
/-- A value of four cells stored, an order drawn. -/
theorem BlkAt.stored {W : World} {b : Nat} {u0 u1 u2 u3 : Value} {T : TypeId} (h : BlkAt W b #[u0, u1, u2, u3] T) (v0 v1 v2 v3 : Value) :
    BlkAt ((((W.setCell ⟨b, 0, none⟩ v0).setCell ⟨b, 1, none⟩ v1).setCell ⟨b, 2, none⟩ v2).setCell ⟨b, 3, none⟩ v3).drew b #[v0, v1, v2, v3] T :=
  (((h.set 0 v0).set 1 v1).set 2 v2).set 3 v3

/-- What impl.against answers. -/
def agArr (N : Nat) (t : Tr) : Array Value := match agN N t with | some k => set4 N k | none => zero4
theorem agArr_n {N : Nat} {t : Tr} (h : agN N t = none) : agArr N t = zero4 := by unfold agArr; rw [h]
theorem agArr_s {N : Nat} {t : Tr} {k : Nat} (h : agN N t = some k) : agArr N t = set4 N k := by unfold agArr; rw [h]

set_option maxRecDepth 100000 in
set_option maxHeartbeats 4000000 in
theorem against_in (N : Nat) (hN : 1 ≤ N ∧ N ≤ 6) (t : Tr) (w : World) :
    Calls Tryz.prog 185 #[.int .i64 N, .iface (nodeT t) (nodeP t)] w fun e w' => e = .returned (.tuple #[.agg (agArr N t), .bool (agN N t).isSome]) ∧ w.grownBy w' none := by
  refine (callsIn_wide (n := 5)).1 ?_
  refine callsIn_of_wp_marks Tryz.func185 rfl trivial ?_ rfl
  simp only [Tryz.ntmps185, List.size_toArray, List.length_cons, List.length_nil, Nat.reduceAdd, Nat.reduceSub, Array.replicate_succ, Array.replicate_zero, List.push_toArray, List.append_toArray, List.nil_append, List.cons_append]
  gi_wp2
  refine (wpIn_wide (n := 5)).2 (wp_scope_straight ((wpIn_wide (n := 5)).1 ?_))
  generalize hQn : Exit.noGoto _ = Qn
  have hQ := Lib.hid hQn
  clear hQn
  gi_wp2
  apply wpIn_label
  gi_wp2_with (refine ⟨trivial, ?_⟩; gi_at_call 186; refine (settings_any _ _ trivial rfl _ _).mono ?_; rintro e w' ⟨rfl, rfl⟩)
  have hM := AgBlk.made N t w
  have hg : w.grownBy _ none := grownBy_trans (World.grownBy_alloc w (.cells #[.int .i64 N] 3) none) (grownBy_trans (World.grownBy_alloc _ (.cells #[.iface (nodeT t) (nodeP t)] 131) none) (grownBy_trans (World.grownBy_alloc _ (.cells #[.int .i64 0, .int .i64 0, .int .i64 0, .int .i64 0] 164) none) (grownBy_trans (World.grownBy_alloc _ (.cells #[.int .i64 0, .int .i64 0, .int .i64 0, .int .i64 0] 164) none) (grownBy_trans (World.grownBy_alloc _ (.cells #[.bool false] 4) none) (World.grownBy_alloc _ (.cells #[.int .i64 N] 3) none)))))
  obtain ⟨W0, hW0⟩ : ∃ W0, ((((((w.alloc (.cells #[.int .i64 N] 3)).alloc (.cells #[.iface (nodeT t) (nodeP t)] 131)).alloc (.cells #[.int .i64 0, .int .i64 0, .int .i64 0, .int .i64 0] 164)).alloc (.cells #[.int .i64 0, .int .i64 0, .int .i64 0, .int .i64 0] 164)).alloc (.cells #[.bool false] 4)).alloc (.cells #[.int .i64 N] 3)) = W0 := ⟨_, rfl⟩
  rw [hW0] at hM hg ⊢
  have hsz : W0.heap.size = w.heap.size + 1 + 1 + 1 + 1 + 1 + 1 := by rw [← hW0]; simp
  clear hW0
  have hB0 : Below w.heap.size w W0 := below_of hg
  clear hg
  refine wpIn_rangeFunc_ownH rfl (show 1 ≤ 5 from by decide) (gf := 206) (lb := #[.pointer (some ⟨w.heap.size + 1 + 1 + 1 + 1 + 1, 0, none⟩)]) rfl trivial (enters_of Tryz.func206 (by kernel_rfl) rfl)
    (settings_stops Fence.wide (5 - 1) trivial rfl (by decide) (w.heap.size + 1 + 1 + 1 + 1 + 1) N hN W0 (by omega) (hM.2.2.2.2.2.cell rfl)) kpC_t (kpC_b (by omega)) (Below.refl _ _) (fun _ => rfl)
    (fun pre W => (AgBlk w.heap.size N t zero4 false W ∧ ∀ x ∈ pre, atK N t x = N) ∧ Below w.heap.size w W)
    (fun c pre W => ((∃ q x, pre = q ++ [x] ∧ (∀ y ∈ q, atK N t y = N) ∧ atK N t x ≠ N ∧ AgBlk w.heap.size N t (set4 N x) true W) ∧ c = .exit 0) ∧ Below w.heap.size w W)
    (OwnFrom.and (Own.from (Own.and (AgBlk.own _ _ _ _ _) (own_pure _)) _) (ownFrom_below (Nat.le_refl _) (by omega)))
    (fun c => OwnFrom.and (Own.from (Own.and (fun s A B row hs hg hr => by obtain ⟨q, x, h1, h2, h3, h4⟩ := hs; exact ⟨q, x, h1, h2, h3, AgBlk.own (β := Unit) _ _ _ (fun _ => set4 N x) _ () A B row h4 hg hr⟩) (own_pure _)) _) (ownFrom_below (Nat.le_refl _) (by omega)))
    ⟨⟨hM, by simp⟩, hB0⟩
    (fun x a' W => ∃ b, w.heap.size + 1 + 1 + 1 + 1 + 1 < b ∧ BlkAt W b (set4 N x) 164 ∧ a' = { tmps := #[.int .i64 N, .iface (nodeT t) (nodeP t), .pointer (some ⟨w.heap.size, 0, none⟩), .pointer (some ⟨w.heap.size + 1, 0, none⟩), .pointer (some ⟨w.heap.size + 1 + 1, 0, none⟩), .bool false, .pointer (some ⟨w.heap.size + 1 + 1 + 1, 0, none⟩), .pointer (some ⟨w.heap.size + 1 + 1 + 1 + 1, 0, none⟩), .pointer (some ⟨b, 0, none⟩), .int .i64 N, .func (.func 206) #[] #[.pointer (some ⟨w.heap.size + 1 + 1 + 1 + 1 + 1, 0, none⟩)], .agg #[.int .i64 N, .int .i64 (tA N x), .int .i64 (tB N x), .int .i64 (tC N x)], undef, undef, undef, undef, undef, undef, undef, undef], defers := [] })
    (fun x a' => Own.from (fun s A B row hs hg hr => by obtain ⟨b, h1, h2, h3⟩ := hs; exact ⟨b, h1, blk_own (β := Unit) b _ (fun _ => set4 N x) () A B row h2 hg hr, h3⟩) _) ?assign ?body ?done ?stop
  case assign =>
    rintro l pre x W K ⟨⟨hA, hp⟩, hB⟩ hK
    simp only [encK]
    gi_wp2
    exact hK _ _ ((KeepsOthers.alloc _ _).from _) (KpC.grown hA.2.2.2.2.2.lt (World.grownBy_alloc _ _ none)) ⟨⟨hA.grown (World.grownBy_alloc _ _ none), hp⟩, hB.alloc hB.size _⟩ ⟨W.heap.size, hA.2.2.2.2.2.lt, BlkAt.new W _ _, rfl⟩
  case body =>
    rintro l pre x a' W hl ⟨r, hr⟩ ⟨⟨hA, hp⟩, hB⟩ ⟨b, hb, hbx, rfl⟩ hlt
    have n0 : W.cell? ⟨w.heap.size, 0, none⟩ = some (.int .i64 N) := hA.1.cell rfl
    have t0 : W.cell? ⟨w.heap.size + 1, 0, none⟩ = some (.iface (nodeT t) (nodeP t)) := hA.2.1.cell rfl
    have x0 : W.cell? ⟨b, 0, none⟩ = some (.int .i64 N) := hbx.cell rfl
    have x1 : W.cell? ⟨b, 1, none⟩ = some (.int .i64 (tA N x)) := hbx.cell rfl
    have x2 : W.cell? ⟨b, 2, none⟩ = some (.int .i64 (tB N x)) := hbx.cell rfl
    have x3 : W.cell? ⟨b, 3, none⟩ = some (.int .i64 (tC N x)) := hbx.cell rfl
    have cv : ∀ w : World, Calls Tryz.prog 160 #[.agg #[.int .i64 N, .int .i64 (tA N x), .int .i64 (tB N x), .int .i64 (tC N x)], .iface (nodeT t) (nodeP t)] w fun e w' => e = .returned (.int .i64 (atK N t x)) ∧ w.grownBy w' none := vt_all (tri_ok hN x) t
    have hd : 1 ≤ 5 - 1 - 1 := by decide
    have hmx : Tryz.prog.follows .mixedOrders = true := by kernel_rfl
    have b0 : W.cell? ⟨w.heap.size + 1 + 1 + 1, 0, none⟩ = some (.int .i64 0) := hA.2.2.2.1.cell rfl
    cases hv : (atK N t x != (N : Int))
    · have he : atK N t x = N := by simpa using hv
      gi_wp2
      gi_region_with_o (refine ⟨trivial, ?_⟩; gi_at_call 160; refine (CallsIn.inRound l (callsIn_wide.2 (cv _))).mono ?_; rintro e w' ⟨rfl, gx⟩; have n0' := cell_grown (w1 := W.drew) n0 gx)
      all_goals
        have g := grownBy_trans (grownBy_drew (grownBy_refl W none)) gx
        gi_wp2
        exact ⟨(KeepsOthers.of_grownBy g (by simp)).from _, KpC.grown hA.2.2.2.2.2.lt g, ⟨hA.grown g, fun y hy => (List.mem_append.1 hy).elim (hp y) (fun e => by simp at e; rw [e]; exact he)⟩, hB.trans ((below_of g).mono hB.size)⟩
    · have he : atK N t x ≠ N := by simpa using hv
      gi_wp2
      gi_region_with_o (refine ⟨trivial, ?_⟩; gi_at_call 160; refine (CallsIn.inRound l (callsIn_wide.2 (cv _))).mono ?_; rintro e w' ⟨rfl, gx⟩; have n0' := cell_grown (w1 := W.drew) n0 gx; have x0' := cell_grown (w1 := W.drew) x0 gx; have x1' := cell_grown (w1 := W.drew) x1 gx; have x2' := cell_grown (w1 := W.drew) x2 gx; have x3' := cell_grown (w1 := W.drew) x3 gx)
      all_goals
        have g := grownBy_trans (grownBy_drew (grownBy_refl W none)) gx
        have hA' := hA.grown g
        have f0 : w'.cell? ⟨w.heap.size + 1 + 1 + 1, 0, none⟩ = some (.int .i64 0) := hA'.2.2.2.1.cell rfl
        have f1 : w'.cell? ⟨w.heap.size + 1 + 1 + 1, 1, none⟩ = some (.int .i64 0) := hA'.2.2.2.1.cell rfl
        have f2 : w'.cell? ⟨w.heap.size + 1 + 1 + 1, 2, none⟩ = some (.int .i64 0) := hA'.2.2.2.1.cell rfl
        have f3 : w'.cell? ⟨w.heap.size + 1 + 1 + 1, 3, none⟩ = some (.int .i64 0) := hA'.2.2.2.1.cell rfl
        have z0 := hA'.2.2.2.1.frozen 0
        have z1 := hA'.2.2.2.1.frozen 1
        have z2 := hA'.2.2.2.1.frozen 2
        have z3 := hA'.2.2.2.1.frozen 3
        have q0 : w'.cell? ⟨w.heap.size + 1 + 1 + 1 + 1, 0, none⟩ = some (.bool false) := hA'.2.2.2.2.1.cell rfl
        have r0 := hA'.2.2.2.2.1.frozen 0
        gi_wp2
        exact ⟨((KeepsOthers.of_grownBy g (by simp)).trans (((((KeepsOthers.setCell _ _ _).trans (KeepsOthers.setCell _ _ _)).trans (KeepsOthers.setCell _ _ _)).trans (KeepsOthers.setCell _ _ _)).trans (KeepsOthers.setCell _ _ _))).from _, ⟨⟨pre, x, rfl, hp, he, hA'.left x⟩, rfl⟩,
          hB.trans (((((((below_of g).mono hB.size).setCell (by simp; omega) _).setCell (by simp; omega) _).setCell (by simp; omega) _).setCell (by simp; omega) _).setCell (by simp; omega) _)⟩
  case done =>
    rintro D ys W hD rfl ⟨⟨hA, hp⟩, hB⟩ hK
    have f0 : W.cell? ⟨w.heap.size + 1 + 1 + 1, 0, none⟩ = some (.int .i64 0) := hA.2.2.2.1.cell rfl
    have f1 : W.cell? ⟨w.heap.size + 1 + 1 + 1, 1, none⟩ = some (.int .i64 0) := hA.2.2.2.1.cell rfl
    have f2 : W.cell? ⟨w.heap.size + 1 + 1 + 1, 2, none⟩ = some (.int .i64 0) := hA.2.2.2.1.cell rfl
    have f3 : W.cell? ⟨w.heap.size + 1 + 1 + 1, 3, none⟩ = some (.int .i64 0) := hA.2.2.2.1.cell rfl
    have z0 := hA.2.2.1.frozen 0
    have z1 := hA.2.2.1.frozen 1
    have z2 := hA.2.2.1.frozen 2
    have z3 := hA.2.2.1.frozen 3
    have e0 : W.cell? ⟨w.heap.size + 1 + 1, 0, none⟩ = some (.int .i64 0) := hA.2.2.1.cell rfl
    have e1 : W.cell? ⟨w.heap.size + 1 + 1, 1, none⟩ = some (.int .i64 0) := hA.2.2.1.cell rfl
    have e2 : W.cell? ⟨w.heap.size + 1 + 1, 2, none⟩ = some (.int .i64 0) := hA.2.2.1.cell rfl
    have e3 : W.cell? ⟨w.heap.size + 1 + 1, 3, none⟩ = some (.int .i64 0) := hA.2.2.1.cell rfl
    have q0 : W.cell? ⟨w.heap.size + 1 + 1 + 1 + 1, 0, none⟩ = some (.bool false) := hA.2.2.2.2.1.cell rfl
    have hmx : Tryz.prog.follows .mixedOrders = true := by kernel_rfl
    have hag : agN N t = none := agN_no fun j hj => hp j (List.mem_range.2 hj)
    have hR := hA.2.2.1.stored (.int .i64 0) (.int .i64 0) (.int .i64 0) (.int .i64 0)
    have hK' := (((((KeepsOthers.setCell W ⟨w.heap.size + 1 + 1, 0, none⟩ (.int .i64 0)).trans (KeepsOthers.setCell _ ⟨w.heap.size + 1 + 1, 1, none⟩ (.int .i64 0))).trans (KeepsOthers.setCell _ ⟨w.heap.size + 1 + 1, 2, none⟩ (.int .i64 0))).trans (KeepsOthers.setCell _ ⟨w.heap.size + 1 + 1, 3, none⟩ (.int .i64 0))).trans (KeepsOthers.drew _)).same D _ hK rfl
    have hB' : Below w.heap.size w _ := ((((hB.setCell (p := ⟨w.heap.size + 1 + 1, 0, none⟩) (by simp <;> omega) (.int .i64 0)).setCell (p := ⟨w.heap.size + 1 + 1, 1, none⟩) (by simp <;> omega) (.int .i64 0)).setCell (p := ⟨w.heap.size + 1 + 1, 2, none⟩) (by simp <;> omega) (.int .i64 0)).setCell (p := ⟨w.heap.size + 1 + 1, 3, none⟩) (by simp <;> omega) (.int .i64 0)).drew
    gi_wp2
    refine (wpIn_wide (n := 5)).2 ?_
    go_region
    all_goals
      gi_wp2
      rw [← hQ.out, Exit.noGoto_ret]
      refine ⟨by simp, .inl ⟨_, _, rfl, run_takeDeferred hK', ?_⟩⟩
      have c0 := cell_kept (hR.cell (i := 0) rfl) (grownBy_putObj' _ D (.deferred none)) (fun r e => by cases e; exact ⟨_, hK', rfl⟩)
      have c1 := cell_kept (hR.cell (i := 1) rfl) (grownBy_putObj' _ D (.deferred none)) (fun r e => by cases e; exact ⟨_, hK', rfl⟩)
      have c2 := cell_kept (hR.cell (i := 2) rfl) (grownBy_putObj' _ D (.deferred none)) (fun r e => by cases e; exact ⟨_, hK', rfl⟩)
      have c3 := cell_kept (hR.cell (i := 3) rfl) (grownBy_putObj' _ D (.deferred none)) (fun r e => by cases e; exact ⟨_, hK', rfl⟩)
      refine ⟨.tuple #[.agg zero4, .bool false], ?_, by rw [agArr_n hag, hag]; rfl, grown_of (hB'.trans (belowK_b (w := w) (Nat.le_refl _) _ D _ _ (by omega) hK' rfl rfl))⟩
      simp [results, Tryz.f185, go_sem, c0, c1, c2, c3]
      rfl
  case stop =>
    rintro D c pre W hD ⟨k, hk, rfl⟩ ⟨⟨⟨q, x, hq, hp, hx, hA⟩, rfl⟩, hB⟩ hK
    rw [List.range_succ] at hq
    obtain ⟨rfl, hx'⟩ := List.append_inj' hq rfl
    obtain rfl : k = x := by simpa using hx'
    have hag : agN N t = some k := agN_at hk (fun j hj => hp j (List.mem_range.2 hj)) hx
    have f0 : W.cell? ⟨w.heap.size + 1 + 1 + 1, 0, none⟩ = some (.int .i64 N) := hA.2.2.2.1.cell rfl
    have f1 : W.cell? ⟨w.heap.size + 1 + 1 + 1, 1, none⟩ = some (.int .i64 (tA N k)) := hA.2.2.2.1.cell rfl
    have f2 : W.cell? ⟨w.heap.size + 1 + 1 + 1, 2, none⟩ = some (.int .i64 (tB N k)) := hA.2.2.2.1.cell rfl
    have f3 : W.cell? ⟨w.heap.size + 1 + 1 + 1, 3, none⟩ = some (.int .i64 (tC N k)) := hA.2.2.2.1.cell rfl
    have z0 := hA.2.2.1.frozen 0
    have z1 := hA.2.2.1.frozen 1
    have z2 := hA.2.2.1.frozen 2
    have z3 := hA.2.2.1.frozen 3
    have e0 : W.cell? ⟨w.heap.size + 1 + 1, 0, none⟩ = some (.int .i64 0) := hA.2.2.1.cell rfl
    have e1 : W.cell? ⟨w.heap.size + 1 + 1, 1, none⟩ = some (.int .i64 0) := hA.2.2.1.cell rfl
    have e2 : W.cell? ⟨w.heap.size + 1 + 1, 2, none⟩ = some (.int .i64 0) := hA.2.2.1.cell rfl
    have e3 : W.cell? ⟨w.heap.size + 1 + 1, 3, none⟩ = some (.int .i64 0) := hA.2.2.1.cell rfl
    have q0 : W.cell? ⟨w.heap.size + 1 + 1 + 1 + 1, 0, none⟩ = some (.bool true) := hA.2.2.2.2.1.cell rfl
    have hmx : Tryz.prog.follows .mixedOrders = true := by kernel_rfl
    have hR := hA.2.2.1.stored (.int .i64 N) (.int .i64 (tA N k)) (.int .i64 (tB N k)) (.int .i64 (tC N k))
    have hK' := (((((KeepsOthers.setCell W ⟨w.heap.size + 1 + 1, 0, none⟩ (.int .i64 N)).trans (KeepsOthers.setCell _ ⟨w.heap.size + 1 + 1, 1, none⟩ (.int .i64 (tA N k)))).trans (KeepsOthers.setCell _ ⟨w.heap.size + 1 + 1, 2, none⟩ (.int .i64 (tB N k)))).trans (KeepsOthers.setCell _ ⟨w.heap.size + 1 + 1, 3, none⟩ (.int .i64 (tC N k)))).trans (KeepsOthers.drew _)).same D _ hK rfl
    have hB' : Below w.heap.size w _ := ((((hB.setCell (p := ⟨w.heap.size + 1 + 1, 0, none⟩) (by simp <;> omega) (.int .i64 N)).setCell (p := ⟨w.heap.size + 1 + 1, 1, none⟩) (by simp <;> omega) (.int .i64 (tA N k))).setCell (p := ⟨w.heap.size + 1 + 1, 2, none⟩) (by simp <;> omega) (.int .i64 (tB N k))).setCell (p := ⟨w.heap.size + 1 + 1, 3, none⟩) (by simp <;> omega) (.int .i64 (tC N k))).drew
    gi_wp2
    refine (wpIn_wide (n := 5)).2 ?_
    go_region
    all_goals
      gi_wp2
      rw [← hQ.out, Exit.noGoto_ret]
      refine ⟨by simp, .inl ⟨_, _, rfl, run_takeDeferred hK', ?_⟩⟩
      have c0 := cell_kept (hR.cell (i := 0) rfl) (grownBy_putObj' _ D (.deferred none)) (fun r e => by cases e; exact ⟨_, hK', rfl⟩)
      have c1 := cell_kept (hR.cell (i := 1) rfl) (grownBy_putObj' _ D (.deferred none)) (fun r e => by cases e; exact ⟨_, hK', rfl⟩)
      have c2 := cell_kept (hR.cell (i := 2) rfl) (grownBy_putObj' _ D (.deferred none)) (fun r e => by cases e; exact ⟨_, hK', rfl⟩)
      have c3 := cell_kept (hR.cell (i := 3) rfl) (grownBy_putObj' _ D (.deferred none)) (fun r e => by cases e; exact ⟨_, hK', rfl⟩)
      refine ⟨.tuple #[.agg (set4 N k), .bool true], ?_, by rw [agArr_s hag, hag]; rfl, grown_of (hB'.trans (belowK_b (w := w) (Nat.le_refl _) _ D _ _ (by omega) hK' rfl rfl))⟩
      simp [results, Tryz.f185, go_sem, c0, c1, c2, c3]
      rfl

end Go.Proofs.YtlnffpofbfigaaaGreatDoor

/-
  impl.chainTree and impl.LeastAt: the least value over what impl.settings yields. No condition.
-/
namespace Go.Proofs.YtlnffpofbfigaaaGreatDoor
open Go.RowKit Go.Shelf
attribute [local go_sem] Oper.semAt_some

theorem chain_no (n : Int) (s : ByteArray) (w : World) (h : inB n 1 6 = false ∨ fOf (bl s) = none) :
    Calls Tryz.prog 163 #[.int .i64 n, .string s] w (TreeNo w) := by
  cases hi : inB n 1 6
  · have cs := steps_any n w
    rw [hi] at cs
    clear h
    go_enter Tryz.func163, Tryz.ntmps163
    go_wp2_with (go_at_call 107; refine cs.mono ?_; rintro e w' ⟨rfl, rfl⟩)
    go_ret2
    exact ⟨_, .inl rfl, rfl, grownBy_refl _ _⟩
  · have ho : fOf (bl s) = none := h.resolve_left (by rw [hi]; simp)
    have cs := steps_any n w
    rw [hi] at cs
    have ct := tree_no s w ho
    clear h ho
    go_enter Tryz.func163, Tryz.ntmps163
    go_wp2_with (go_at_call 107; refine cs.mono ?_; rintro e w' ⟨rfl, rfl⟩)
    refine ct.mono ?_
    rintro e w1 ⟨v, hv, rfl, g1⟩
    clear ct cs
    go_wp2_with fail
    go_ret2
    exact ⟨v, hv, rfl, g1⟩

theorem chain_yes {n : Int} (s : ByteArray) (w : World) {t : Tr} (hi : inB n 1 6 = true) (ho : fOf (bl s) = some t) :
    Calls Tryz.prog 163 #[.int .i64 n, .string s] w (TreeYes t w) := by
  have cs := steps_any n w
  rw [hi] at cs
  have ct := tree_yes s w ho
  clear ho
  go_enter Tryz.func163, Tryz.ntmps163
  go_wp2_with (go_at_call 107; refine cs.mono ?_; rintro e w' ⟨rfl, rfl⟩)
  refine ct.mono ?_
  rintro e w1 ⟨rfl, g1⟩
  clear ct cs
  go_wp2_with fail
  go_ret2
  exact ⟨rfl, g1⟩

theorem least_no (n : Int) (s : ByteArray) (w : World) (h : inB n 1 6 = false ∨ fOf (bl s) = none) :
    Calls Tryz.prog 151 #[.int .i64 n, .string s] w fun e w' => e = .returned (.int .i64 (-1)) ∧ w.grownBy w' none := by
  have cc := chain_no n s w h
  clear h
  go_enter Tryz.func151, Tryz.ntmps151
  go_wp2_with fail
  refine cc.mono ?_
  rintro e w1 ⟨v, hv, rfl, g1⟩
  clear cc
  rcases hv with rfl | ⟨T, p, rfl⟩
  all_goals
    go_wp2_with fail
    go_ret
    exact ⟨rfl, grownBy_trans g1 (World.grownBy_alloc _ _ none)⟩

/-- The least value over what has come. -/
def lowL (N : Nat) (t : Tr) (pre : List Nat) : Int := pre.foldl (fun s k => if s ≤ atK N t k then s else atK N t k) (N : Int)
theorem lowL_s1 {N : Nat} {t : Tr} {pre : List Nat} {x : Nat} (h : lowL N t pre ≤ atK N t x) : lowL N t (pre ++ [x]) = lowL N t pre := by
  unfold lowL at *
  rw [List.foldl_append]
  exact if_pos h
theorem lowL_s2 {N : Nat} {t : Tr} {pre : List Nat} {x : Nat} (h : ¬ lowL N t pre ≤ atK N t x) : lowL N t (pre ++ [x]) = atK N t x := by
  unfold lowL at *
  rw [List.foldl_append]
  exact if_neg h
theorem lowL_range (N : Nat) (t : Tr) : ∀ K, lowL N t (List.range K) = lowU N t K := by
  intro K
  induction K with
  | zero => rfl
  | succ K ih =>
    rw [List.range_succ]
    by_cases h : lowL N t (List.range K) ≤ atK N t K
    · rw [lowL_s1 h, ih]
      rw [ih] at h
      exact (lowU_s1 h).symm
    · rw [lowL_s2 h]
      rw [ih] at h
      exact (lowU_s2 h).symm

/-- What lies before impl.LeastAt's loop, from block b on. -/
def LoBlk (b N : Nat) (t : Tr) (v : Int) (W : World) : Prop :=
  BlkAt W b #[.iface (nodeT t) (nodeP t)] 131 ∧ BlkAt W (b + 1) #[.int .i64 v] 3 ∧ BlkAt W (b + 1 + 1) #[.int .i64 N] 3
theorem LoBlk.grown {b N : Nat} {t : Tr} {v : Int} {W W' : World} (h : LoBlk b N t v W) (hg : W.grownBy W' none) : LoBlk b N t v W' :=
  ⟨h.1.grown hg, h.2.1.grown hg, h.2.2.grown hg⟩
theorem LoBlk.put {b N : Nat} {t : Tr} {v : Int} {W : World} (h : LoBlk b N t v W) (u : Int) : LoBlk b N t u (W.setCell ⟨b + 1, 0, none⟩ (.int .i64 u)) :=
  ⟨h.1.other (by simp) _, h.2.1.set 0 _, h.2.2.other (by simp) _⟩
theorem LoBlk.own {β : Type} (b N : Nat) (t : Tr) (f : β → Int) : Own (fun s W => LoBlk b N t (f s) W) :=
  Own.and (blk_own _ _ _) (Own.and (blk_own _ _ fun s => #[.int .i64 (f s)]) (blk_own _ _ _))
theorem LoBlk.made (N : Nat) (t : Tr) (v : Int) (w : World) : LoBlk w.heap.size N t v (((w.alloc (.cells #[.iface (nodeT t) (nodeP t)] 131)).alloc (.cells #[.int .i64 v] 3)).alloc (.cells #[.int .i64 N] 3)) := by
  have h0 := BlkAt.new w #[.iface (nodeT t) (nodeP t)] 131
  generalize hw0 : w.alloc (.cells #[.iface (nodeT t) (nodeP t)] 131) = w0 at *
  have e0 : w0.heap.size = w.heap.size + 1 := by rw [← hw0]; simp
  have h1 := BlkAt.new w0 #[.int .i64 v] 3
  have g1 : w0.grownBy (w0.alloc (.cells #[.int .i64 v] 3)) none := World.grownBy_alloc _ _ none
  generalize hw1 : w0.alloc (.cells #[.int .i64 v] 3) = w1 at *
  have e1 : w1.heap.size = w.heap.size + 1 + 1 := by rw [← hw1]; simp [e0]
  have h2 := BlkAt.new w1 #[.int .i64 N] 3
  have g2 : w1.grownBy (w1.alloc (.cells #[.int .i64 N] 3)) none := World.grownBy_alloc _ _ none
  rw [e0] at h1
  rw [e1] at h2
  exact ⟨h0.grown (grownBy_trans g1 g2), h1.grown g2, h2⟩

set_option maxRecDepth 100000 in
set_option maxHeartbeats 4000000 in
theorem least_yes (N : Nat) (hN : 1 ≤ N ∧ N ≤ 6) (s : ByteArray) (w : World) {t : Tr} (ho : fOf (bl s) = some t) :
    Calls Tryz.prog 151 #[.int .i64 N, .string s] w fun e w' => e = .returned (.int .i64 (lowU N t (cub N))) ∧ w.grownBy w' none := by
  have cc := chain_yes s w (inB_t (n := N) (by omega)) ho
  clear ho
  refine (callsIn_wide (n := 5)).1 ?_
  refine callsIn_of_wp_marks Tryz.func151 rfl trivial ?_ rfl
  simp only [Tryz.ntmps151, List.size_toArray, List.length_cons, List.length_nil, Nat.reduceAdd, Nat.reduceSub, Array.replicate_succ, Array.replicate_zero, List.push_toArray, List.append_toArray, List.nil_append, List.cons_append]
  gi_wp2_with (refine ⟨trivial, ?_⟩; gi_at_call 163; refine (callsIn_wide.2 cc).mono ?_; rintro e w1 ⟨rfl, g1⟩)
  clear cc
  gi_wp2_with (refine ⟨trivial, ?_⟩; gi_at_call 186; refine (settings_any _ _ trivial rfl _ _).mono ?_; rintro e w' ⟨rfl, rfl⟩)
  have hM := LoBlk.made N t N w1
  have hg := grownBy_trans g1 (grownBy_trans (World.grownBy_alloc w1 (.cells #[.iface (nodeT t) (nodeP t)] 131) none) (grownBy_trans (World.grownBy_alloc _ (.cells #[.int .i64 N] 3) none) (World.grownBy_alloc _ (.cells #[.int .i64 N] 3) none)))
  obtain ⟨W0, hW0⟩ : ∃ W0, (((w1.alloc (.cells #[.iface (nodeT t) (nodeP t)] 131)).alloc (.cells #[.int .i64 N] 3)).alloc (.cells #[.int .i64 N] 3)) = W0 := ⟨_, rfl⟩
  rw [hW0] at hM hg ⊢
  have hsz : W0.heap.size = w1.heap.size + 1 + 1 + 1 := by rw [← hW0]; simp
  clear hW0
  have hw1 := g1.size
  have hB0 : Below w.heap.size w W0 := below_of hg
  clear hg
  refine wpIn_rangeFunc_ownH rfl (show 1 ≤ 5 from by decide) (gf := 206) (lb := #[.pointer (some ⟨w1.heap.size + 1 + 1, 0, none⟩)]) rfl trivial (enters_of Tryz.func206 (by kernel_rfl) rfl)
    (settings_stops Fence.wide (5 - 1) trivial rfl (by decide) (w1.heap.size + 1 + 1) N hN W0 (by omega) (hM.2.2.cell rfl)) kpC_t (kpC_b (by omega)) (Below.refl _ _) (fun _ => rfl)
    (fun pre W => LoBlk w1.heap.size N t (lowL N t pre) W ∧ Below w.heap.size w W)
    (fun _ _ _ => False)
    (OwnFrom.and (Own.from (LoBlk.own _ _ _ (fun pre => lowL N t pre)) _) (ownFrom_below (Nat.le_refl _) (by omega)))
    (fun _ _ _ _ _ hs _ _ => hs)
    ⟨hM, hB0⟩
    (fun x a' W => ∃ b, w1.heap.size + 1 + 1 < b ∧ BlkAt W b (set4 N x) 164 ∧ a' = { tmps := #[.int .i64 N, .string s, undef, undef, .int .i64 0, .pointer (some ⟨w1.heap.size, 0, none⟩), .bool true, .pointer (some ⟨w1.heap.size + 1, 0, none⟩), .pointer (some ⟨b, 0, none⟩), .tuple #[.iface (nodeT t) (nodeP t), .bool true], .int .i64 N, .string s, .tuple #[.iface (nodeT t) (nodeP t), .bool true], .iface (nodeT t) (nodeP t), .bool true, .bool true, .bool false, .int .i64 N, .int .i64 N, .func (.func 206) #[] #[.pointer (some ⟨w1.heap.size + 1 + 1, 0, none⟩)], .agg #[.int .i64 N, .int .i64 (tA N x), .int .i64 (tB N x), .int .i64 (tC N x)], undef, undef, undef, undef, undef, undef], defers := [] })
    (fun x a' => Own.from (fun s A B row hs hg hr => by obtain ⟨b, h1, h2, h3⟩ := hs; exact ⟨b, h1, blk_own (β := Unit) b _ (fun _ => set4 N x) () A B row h2 hg hr, h3⟩) _) ?assign ?body ?done ?stop
  case assign =>
    rintro l pre x W K ⟨hA, hB⟩ hK
    simp only [encK]
    gi_wp2
    exact hK _ _ ((KeepsOthers.alloc _ _).from _) (KpC.grown hA.2.2.lt (World.grownBy_alloc _ _ none)) ⟨hA.grown (World.grownBy_alloc _ _ none), hB.alloc hB.size _⟩ ⟨W.heap.size, hA.2.2.lt, BlkAt.new W _ _, rfl⟩
  case body =>
    rintro l pre x a' W hl ⟨r, hr⟩ ⟨hA, hB⟩ ⟨b, hb, hbx, rfl⟩ hlt
    have n0 : W.cell? ⟨w1.heap.size + 1, 0, none⟩ = some (.int .i64 (lowL N t pre)) := hA.2.1.cell rfl
    have t0 : W.cell? ⟨w1.heap.size, 0, none⟩ = some (.iface (nodeT t) (nodeP t)) := hA.1.cell rfl
    have x0 : W.cell? ⟨b, 0, none⟩ = some (.int .i64 N) := hbx.cell rfl
    have x1 : W.cell? ⟨b, 1, none⟩ = some (.int .i64 (tA N x)) := hbx.cell rfl
    have x2 : W.cell? ⟨b, 2, none⟩ = some (.int .i64 (tB N x)) := hbx.cell rfl
    have x3 : W.cell? ⟨b, 3, none⟩ = some (.int .i64 (tC N x)) := hbx.cell rfl
    have cv : ∀ w : World, Calls Tryz.prog 160 #[.agg #[.int .i64 N, .int .i64 (tA N x), .int .i64 (tB N x), .int .i64 (tC N x)], .iface (nodeT t) (nodeP t)] w fun e w' => e = .returned (.int .i64 (atK N t x)) ∧ w.grownBy w' none := vt_all (tri_ok hN x) t
    have hd : 1 ≤ 5 - 1 - 1 := by decide
    have hmx : Tryz.prog.follows .mixedOrders = true := by kernel_rfl
    by_cases hv : lowL N t pre ≤ atK N t x
    · gi_wp2
      gi_region_with_o (refine ⟨trivial, ?_⟩; gi_at_call 160; refine (CallsIn.inRound l (callsIn_wide.2 (cv _))).mono ?_; rintro e w' ⟨rfl, gx⟩; have n0' := cell_grown (w1 := W.drew) n0 gx; have z0' := (hA.grown (grownBy_trans (grownBy_drew (grownBy_refl W none)) gx)).2.1.frozen 0)
      all_goals
        have g := grownBy_trans (grownBy_drew (grownBy_refl W none)) gx
        have hA' := hA.grown g
        gi_wp2
        exact ⟨((KeepsOthers.of_grownBy g (by simp)).trans (KeepsOthers.setCell _ _ _)).from _, kpC_t (KpC.grown hA.2.2.lt g) (KpC.set _ (by simp) _), by rw [lowL_s1 hv]; exact hA'.put _, hB.trans (((below_of g).mono hB.size).setCell (by simp <;> omega) _)⟩
    · gi_wp2
      gi_region_with_o (refine ⟨trivial, ?_⟩; gi_at_call 160; refine (CallsIn.inRound l (callsIn_wide.2 (cv _))).mono ?_; rintro e w' ⟨rfl, gx⟩; have n0' := cell_grown (w1 := W.drew) n0 gx; have z0' := (hA.grown (grownBy_trans (grownBy_drew (grownBy_refl W none)) gx)).2.1.frozen 0)
      all_goals
        have g := grownBy_trans (grownBy_drew (grownBy_refl W none)) gx
        have hA' := hA.grown g
        gi_wp2
        exact ⟨((KeepsOthers.of_grownBy g (by simp)).trans (KeepsOthers.setCell _ _ _)).from _, kpC_t (KpC.grown hA.2.2.lt g) (KpC.set _ (by simp) _), by rw [lowL_s2 (by omega)]; exact hA'.put _, hB.trans (((below_of g).mono hB.size).setCell (by simp <;> omega) _)⟩
  case done =>
    rintro D ys W hD rfl ⟨hA, hB⟩ hK
    rw [lowL_range] at hA
    have n0 : W.cell? ⟨w1.heap.size + 1, 0, none⟩ = some (.int .i64 (lowU N t (cub N))) := hA.2.1.cell rfl
    gi_wp2
    refine ⟨by simp, .inl ⟨_, _, rfl, run_takeDeferred hK, ?_⟩⟩
    exact ⟨_, results_tmp rfl _ _ _, rfl, grown_of (hB.trans (belowK_b (w := w) (Nat.le_refl _) W D _ _ (by omega) hK rfl rfl))⟩
  case stop =>
    rintro D c pre W _ _ h _
    exact h.elim

theorem least_any (n : Int) (s : ByteArray) (w : World) :
    Calls Tryz.prog 151 #[.int .i64 n, .string s] w fun e w' => e = .returned (.int .i64 (leastI n (bl s))) ∧ w.grownBy w' none := by
  cases hi : inB n 1 6
  · rw [leastI_o hi]; exact least_no n s w (.inl hi)
  · cases ho : fOf (bl s) with
    | none => rw [leastI_n ho]; exact least_no n s w (.inr ho)
    | some t =>
      have hN := inB_of hi
      obtain ⟨N, rfl⟩ : ∃ N : Nat, n = N := ⟨n.toNat, by omega⟩
      rw [leastI_t ho hi]
      exact least_yes N (by omega) s w ho

end Go.Proofs.YtlnffpofbfigaaaGreatDoor

/-
  impl.AlwaysOk, impl.AgainstOf, impl.AxiomAt. No condition.
-/
namespace Go.Proofs.YtlnffpofbfigaaaGreatDoor
open Go.RowKit

theorem results_tmp4 {fn : Func} {t u v x : Tmp} (h : fn.results = #[.tmp t, .tmp u, .tmp v, .tmp x]) (tmps : Array Value) (P : Program) (w : World) :
    (results fn tmps).run P w = .ok (.tuple #[tmps.getD t undef, tmps.getD u undef, tmps.getD v undef, tmps.getD x undef]) w := by
  simp [results, h]
theorem against_no {N : Nat} (hN : 1 ≤ N ∧ N ≤ 6) {t : Tr} (h : agN N t = none) (w : World) :
    Calls Tryz.prog 185 #[.int .i64 N, .iface (nodeT t) (nodeP t)] w fun e w' => e = .returned (.tuple #[.agg #[.int .i64 0, .int .i64 0, .int .i64 0, .int .i64 0], .bool false]) ∧ w.grownBy w' none := by
  have := against_in N hN t w
  rw [agArr_n h, h] at this
  exact this
theorem against_yes {N : Nat} (hN : 1 ≤ N ∧ N ≤ 6) {t : Tr} {k : Nat} (h : agN N t = some k) (w : World) :
    Calls Tryz.prog 185 #[.int .i64 N, .iface (nodeT t) (nodeP t)] w fun e w' => e = .returned (.tuple #[.agg #[.int .i64 N, .int .i64 (tA N k), .int .i64 (tB N k), .int .i64 (tC N k)], .bool true]) ∧ w.grownBy w' none := by
  have := against_in N hN t w
  rw [agArr_s h, h] at this
  exact this

theorem always_no (n : Int) (s : ByteArray) (w : World) (h : inB n 1 6 = false ∨ fOf (bl s) = none) :
    Calls Tryz.prog 150 #[.int .i64 n, .string s] w fun e w' => e = .returned (.bool false) ∧ w.grownBy w' none := by
  have cc := chain_no n s w h
  clear h
  go_enter Tryz.func150, Tryz.ntmps150
  go_wp2_with fail
  refine cc.mono ?_
  rintro e w1 ⟨v, hv, rfl, g1⟩
  clear cc
  go_wp2_with fail
  go_ret
  exact ⟨rfl, g1⟩

theorem always_yes (N : Nat) (hN : 1 ≤ N ∧ N ≤ 6) (s : ByteArray) (w : World) {t : Tr} (ho : fOf (bl s) = some t) :
    Calls Tryz.prog 150 #[.int .i64 N, .string s] w fun e w' => e = .returned (.bool (alwT N t)) ∧ w.grownBy w' none := by
  have cc := chain_yes s w (inB_t (n := N) (by omega)) ho
  clear ho
  have ha := agN_alw N t
  cases hag : agN N t with
  | none =>
    have c2 := against_no hN hag
    rw [hag] at ha
    rw [← ha]
    clear ha hag
    go_enter Tryz.func150, Tryz.ntmps150
    go_wp2_with fail
    refine cc.mono ?_
    rintro e w1 ⟨rfl, g1⟩
    clear cc
    go_wp2_with fail
    refine (c2 _).mono ?_
    rintro e w2 ⟨rfl, g2⟩
    clear c2
    go_wp2_with fail
    go_ret
    exact ⟨rfl, grownBy_trans g1 (grownBy_trans g2 (World.grownBy_alloc _ _ none))⟩
  | some k =>
    have c2 := against_yes hN hag
    rw [hag] at ha
    rw [← ha]
    clear ha hag
    go_enter Tryz.func150, Tryz.ntmps150
    go_wp2_with fail
    refine cc.mono ?_
    rintro e w1 ⟨rfl, g1⟩
    clear cc
    go_wp2_with fail
    refine (c2 _).mono ?_
    rintro e w2 ⟨rfl, g2⟩
    clear c2
    go_wp2_with fail
    go_ret
    exact ⟨rfl, grownBy_trans g1 (grownBy_trans g2 (World.grownBy_alloc _ _ none))⟩

theorem always_any (n : Int) (s : ByteArray) (w : World) :
    Calls Tryz.prog 150 #[.int .i64 n, .string s] w fun e w' => e = .returned (.bool (alwB n (bl s))) ∧ w.grownBy w' none := by
  cases hi : inB n 1 6
  · rw [alwB_o hi]; exact always_no n s w (.inl hi)
  · cases ho : fOf (bl s) with
    | none => rw [alwB_n ho]; exact always_no n s w (.inr ho)
    | some t =>
      obtain ⟨N, rfl, hN⟩ := nat_of hi
      rw [alwB_t ho hi]
      exact always_yes N hN s w ho

/-- What AgainstOf answers. -/
def agV (n : Int) (l : List UInt8) : Value :=
  match agI n l with
  | some k => .tuple #[.int .i64 (tA n.toNat k), .int .i64 (tB n.toNat k), .int .i64 (tC n.toNat k), .bool true]
  | none => .tuple #[.int .i64 (-1), .int .i64 (-1), .int .i64 (-1), .bool false]
theorem agV_n {n : Int} {l : List UInt8} (h : agI n l = none) : agV n l = .tuple #[.int .i64 (-1), .int .i64 (-1), .int .i64 (-1), .bool false] := by unfold agV; rw [h]
theorem agV_s {N k : Nat} {l : List UInt8} (h : agI N l = some k) : agV N l = .tuple #[.int .i64 (tA N k), .int .i64 (tB N k), .int .i64 (tC N k), .bool true] := by unfold agV; rw [h]; rfl

theorem agof_no (n : Int) (s : ByteArray) (w : World) (h : inB n 1 6 = false ∨ fOf (bl s) = none) :
    Calls Tryz.prog 152 #[.int .i64 n, .string s] w fun e w' => e = .returned (.tuple #[.int .i64 (-1), .int .i64 (-1), .int .i64 (-1), .bool false]) ∧ w.grownBy w' none := by
  have cc := chain_no n s w h
  clear h
  go_enter Tryz.func152, Tryz.ntmps152
  go_wp2_with fail
  refine cc.mono ?_
  rintro e w1 ⟨v, hv, rfl, g1⟩
  clear cc
  go_wp2_with fail
  refine bodyPost_ret (results_tmp4 rfl _ _ _) rfl ?_
  exact ⟨rfl, g1⟩

theorem agof_none (N : Nat) (hN : 1 ≤ N ∧ N ≤ 6) (s : ByteArray) (w : World) {t : Tr} (ho : fOf (bl s) = some t) (hag : agN N t = none) :
    Calls Tryz.prog 152 #[.int .i64 N, .string s] w fun e w' => e = .returned (.tuple #[.int .i64 (-1), .int .i64 (-1), .int .i64 (-1), .bool false]) ∧ w.grownBy w' none := by
  have cc := chain_yes s w (inB_t (n := N) (by omega)) ho
  clear ho
  have c2 := against_no hN hag
  clear hag
  go_enter Tryz.func152, Tryz.ntmps152
  go_wp2_with fail
  refine cc.mono ?_
  rintro e w1 ⟨rfl, g1⟩
  clear cc
  go_wp2_with fail
  refine (c2 _).mono ?_
  rintro e w2 ⟨rfl, g2⟩
  clear c2
  go_wp2_with fail
  refine bodyPost_ret (results_tmp4 rfl _ _ _) rfl ?_
  exact ⟨rfl, grownBy_trans g1 (grownBy_trans g2 (World.grownBy_alloc _ _ none))⟩

theorem agof_some (N : Nat) (hN : 1 ≤ N ∧ N ≤ 6) (s : ByteArray) (w : World) {t : Tr} (ho : fOf (bl s) = some t) {k : Nat} (hag : agN N t = some k) :
    Calls Tryz.prog 152 #[.int .i64 N, .string s] w fun e w' => e = .returned (.tuple #[.int .i64 (tA N k), .int .i64 (tB N k), .int .i64 (tC N k), .bool true]) ∧ w.grownBy w' none := by
  have cc := chain_yes s w (inB_t (n := N) (by omega)) ho
  clear ho
  have c2 := against_yes hN hag
  clear hag
  go_enter Tryz.func152, Tryz.ntmps152
  go_wp2_with fail
  refine cc.mono ?_
  rintro e w1 ⟨rfl, g1⟩
  clear cc
  go_wp2_with fail
  refine (c2 _).mono ?_
  rintro e w2 ⟨rfl, g2⟩
  clear c2
  have hb := BlkAt.new w2 #[.int .i64 N, .int .i64 (tA N k), .int .i64 (tB N k), .int .i64 (tC N k)] 164
  have b0 : (w2.alloc (.cells #[.int .i64 N, .int .i64 (tA N k), .int .i64 (tB N k), .int .i64 (tC N k)] 164)).cell? ⟨w2.heap.size, 1, none⟩ = some (.int .i64 (tA N k)) := hb.cell rfl
  have b1 : (w2.alloc (.cells #[.int .i64 N, .int .i64 (tA N k), .int .i64 (tB N k), .int .i64 (tC N k)] 164)).cell? ⟨w2.heap.size, 2, none⟩ = some (.int .i64 (tB N k)) := hb.cell rfl
  have b2 : (w2.alloc (.cells #[.int .i64 N, .int .i64 (tA N k), .int .i64 (tB N k), .int .i64 (tC N k)] 164)).cell? ⟨w2.heap.size, 3, none⟩ = some (.int .i64 (tC N k)) := hb.cell rfl
  go_wp2_with fail
  go_quiet (fail)
  go_wp2_with fail
  refine bodyPost_ret (results_tmp4 rfl _ _ _) rfl ?_
  exact ⟨rfl, grownBy_drewN (grownBy_trans g1 (grownBy_trans g2 (World.grownBy_alloc _ _ none))) _⟩

theorem agof_any (n : Int) (s : ByteArray) (w : World) :
    Calls Tryz.prog 152 #[.int .i64 n, .string s] w fun e w' => e = .returned (agV n (bl s)) ∧ w.grownBy w' none := by
  cases hi : inB n 1 6
  · rw [agV_n (agI_o hi)]; exact agof_no n s w (.inl hi)
  · cases ho : fOf (bl s) with
    | none => rw [agV_n (agI_n ho)]; exact agof_no n s w (.inr ho)
    | some t =>
      obtain ⟨N, rfl, hN⟩ := nat_of hi
      cases hag : agN N t with
      | none => rw [agV_n (by rw [agI_t ho hi]; exact hag)]; exact agof_none N hN s w ho hag
      | some k => rw [agV_s (by rw [agI_t ho hi]; exact hag)]; exact agof_some N hN s w ho hag

def axT (n : Int) : ByteArray := ⟨(axS n).toArray⟩
theorem axS_out {n : Int} (h : ¬ (0 ≤ n ∧ n ≤ 3)) : axS n = [] := by
  unfold axS
  rw [if_neg (by omega), if_neg (by omega), if_neg (by omega), if_neg (by omega)]

end Go.Proofs.YtlnffpofbfigaaaGreatDoor

/-
  impl.ChainsFor: the numbers of steps of the chains in which a formula always holds. No condition.
-/
namespace Go.Proofs.YtlnffpofbfigaaaGreatDoor
open Go.RowKit

def chTo (l : List UInt8) : Nat → List Int
  | 0 => []
  | j + 1 => if alwB ((j + 1 : Nat) : Int) l = true then chTo l j ++ [((j + 1 : Nat) : Int)] else chTo l j
theorem chTo_hit {l : List UInt8} {j : Nat} (h : alwB ((j + 1 : Nat) : Int) l = true) : chTo l (j + 1) = chTo l j ++ [((j + 1 : Nat) : Int)] := if_pos h
theorem chTo_miss {l : List UInt8} {j : Nat} (h : alwB ((j + 1 : Nat) : Int) l = false) : chTo l (j + 1) = chTo l j := if_neg (by rw [h]; decide)
theorem chTo_len (l : List UInt8) : ∀ j, (chTo l j).length ≤ j := by
  intro j
  induction j with
  | zero => exact Nat.le_refl _
  | succ j ih =>
    cases h : alwB ((j + 1 : Nat) : Int) l
    · rw [chTo_miss h]; omega
    · rw [chTo_hit h, List.length_append]; simp; omega
theorem chTo_eq (l : List UInt8) : ∀ j, chTo l j = ((List.range j).map fun i => ((i + 1 : Nat) : Int)).filter fun n => alwB n l := by
  intro j
  induction j with
  | zero => rfl
  | succ j ih =>
    rw [List.range_succ, List.map_append, List.filter_append, ← ih]
    cases h : alwB ((j + 1 : Nat) : Int) l
    · rw [chTo_miss h]
      show _ = _ ++ List.filter _ [((j + 1 : Nat) : Int)]
      rw [List.filter_cons_of_neg (by rw [h]; decide)]
      simp
    · rw [chTo_hit h]
      show _ = _ ++ List.filter _ [((j + 1 : Nat) : Int)]
      rw [List.filter_cons_of_pos (p := fun n => alwB n l) h]
      rfl
theorem chTo_6 (l : List UInt8) : chTo l 6 = chI l := chTo_eq l 6
theorem chI_n {l : List UInt8} (h : fOf l = none) : chI l = [] := by
  unfold chI
  rw [List.filter_eq_nil_iff]
  intro a _
  rw [alwB_n h]
  decide

def ChRel (l : List UInt8) (w : World) (v i : Value) (wr : World) : Prop := ∃ j : Nat, j ≤ 6 ∧ i = .int .i64 ((j : Int) + 1) ∧ RowRel (chTo l j) w.heap.size w v wr

theorem chains_no (s : ByteArray) (w : World) (h : fOf (bl s) = none) :
    Calls Tryz.prog 154 #[.string s] w (IntsPost (chI (bl s)) w) := by
  have ct := tree_no s w h
  have hp := Lib.hid (chI_n h)
  clear h
  go_enter Tryz.func154, Tryz.ntmps154
  go_wp2_with fail
  refine ct.mono ?_
  rintro e w1 ⟨v, hv, rfl, g1⟩
  clear ct
  go_wp2_with fail
  go_ret
  rw [hp.out]
  exact ⟨none, 0, rfl, OwnI.nil _ _, g1⟩

set_option maxRecDepth 100000 in
set_option maxHeartbeats 1600000 in
theorem chains_yes (s : ByteArray) (w : World) {t : Tr} (h : fOf (bl s) = some t) :
    Calls Tryz.prog 154 #[.string s] w (IntsPost (chI (bl s)) w) := by
  obtain ⟨i0, hi, hz0, hz1, hz2⟩ := info_parts infoInt
  have ct := tree_yes s w h
  have H := Lib.hid h
  clear h
  rw [← chTo_6]
  go_enter Tryz.func154, Tryz.ntmps154
  go_wp2_with fail
  refine ct.mono ?_
  rintro e w1 ⟨rfl, g1⟩
  clear ct
  go_wp2_with fail
  go_loopw [5, 6] (fun v i wr => ChRel (bl s) w v i wr) (fun _ i _ => (7 - intOf i).toNat)
  case atStart => exact ⟨0, by omega, rfl, none, 0, rfl, OwnI.nil _ _, g1⟩
  case round =>
    obtain ⟨j, hj, rfl, a, cap, rfl, hown, hgr⟩ := hrel
    have hlen := chTo_len (bl s) j
    by_cases hlt : j < 6
    · have hN : 1 ≤ j + 1 ∧ j + 1 ≤ 6 := by omega
      have hb : alwB ((j + 1 : Nat) : Int) (bl s) = (agN (j + 1) t).isNone := by rw [alwB_t H.out (inB_t (by omega)), agN_alw]
      cases hag : agN (j + 1) t with
      | none =>
        rw [hag] at hb
        have e := Lib.hid (chTo_hit (l := bl s) (j := j) hb)
        have c2 : ∀ w : World, Calls Tryz.prog 185 #[.int .i64 ((j : Int) + 1), .iface (nodeT t) (nodeP t)] w fun e w' => e = .returned (.tuple #[.agg #[.int .i64 0, .int .i64 0, .int .i64 0, .int .i64 0], .bool false]) ∧ w.grownBy w' none := against_no hN hag
        clear hb hag
        go_wp2_with fail
        refine (c2 _).mono ?_
        rintro e w2 ⟨rfl, hg2⟩
        replace hown := hown.kept hg2
        replace hgr := grownBy_trans hgr hg2
        clear c2
        go_wp2_with (at_builtin; refine wpList_append_own _ rfl _ _ 102 rfl w.heap.size 3 i0 (.int .i64 0) 1 8 Tryz.underlying102 hi hz0 hz1 hz2 rfl (by decide) _ _ _ rfl (World.ownsRow.alloc (World.ownsRow.alloc hown _) _) ⟨w2.heap.size + 1, 0, none⟩ 1 1 [.int .i64 ((j : Int) + 1)] rfl rfl ?c1 ?c2 ?c3 ?c4 ?c5 ?_)
        case c1 =>
          intro j u hj
          match j, hj with
          | 0, hj => simp at hj; subst hj; simp [Addr.add]
        case c2 => intro u hu; simp at hu; subst hu; rfl
        case c3 => unfold maxLen; omega
        case c4 => omega
        case c5 => have := hgr.size; simp; omega
        intro v' w3 hown' hgrow _
        have R := row_more hown hgr hown' (grow_box (grow_box hgrow))
        rw [show ((j : Int) + 1) = ((j + 1 : Nat) : Int) from rfl, ← e.out] at R
        clear hown hown' hgrow
        go_wp2
        go_roundw
        case rel => exact ⟨j + 1, by omega, by go_num, R⟩
        case measure => simp [intOf]; omega
      | some k =>
        rw [hag] at hb
        have e := Lib.hid (chTo_miss (l := bl s) (j := j) hb)
        have c2 : ∀ w : World, Calls Tryz.prog 185 #[.int .i64 ((j : Int) + 1), .iface (nodeT t) (nodeP t)] w fun e w' => e = .returned (.tuple #[.agg #[.int .i64 ((j : Int) + 1), .int .i64 (tA (j + 1) k), .int .i64 (tB (j + 1) k), .int .i64 (tC (j + 1) k)], .bool true]) ∧ w.grownBy w' none := against_yes hN hag
        clear hb hag
        go_wp2_with fail
        refine (c2 _).mono ?_
        rintro e w2 ⟨rfl, hg2⟩
        replace hown := hown.kept (grownBy_trans hg2 (World.grownBy_alloc _ (.cells #[.int .i64 ((j : Int) + 1), .int .i64 (tA (j + 1) k), .int .i64 (tB (j + 1) k), .int .i64 (tC (j + 1) k)] 164) none))
        replace hgr := grownBy_trans hgr (grownBy_trans hg2 (World.grownBy_alloc _ (.cells #[.int .i64 ((j : Int) + 1), .int .i64 (tA (j + 1) k), .int .i64 (tB (j + 1) k), .int .i64 (tC (j + 1) k)] 164) none))
        clear c2
        go_wp2_with fail
        go_roundw
        case rel => exact ⟨j + 1, by omega, by go_num, a, cap, by rw [e.out], by rw [e.out]; exact hown, hgr⟩
        case measure => simp [intOf]; omega
    · obtain rfl : j = 6 := by omega
      go_wp2
      go_ret
      exact ⟨a, cap, rfl, hown, hgr⟩

theorem chains_any (s : ByteArray) (w : World) :
    Calls Tryz.prog 154 #[.string s] w (IntsPost (chI (bl s)) w) := by
  cases h : fOf (bl s) with
  | none => exact chains_no s w h
  | some t => exact chains_yes s w h

end Go.Proofs.YtlnffpofbfigaaaGreatDoor

/-
  What the functions of chapter 8 answer, as propositions: the laws' walks take them as they come.
-/
namespace Go.Proofs.YtlnffpofbfigaaaGreatDoor
open Go.RowKit

def FarC : Prop := ∀ (n a b : Int) (w : World), Calls Tryz.prog 189 #[.int .i64 n, .int .i64 a, .int .i64 b] w fun e w' => e = .returned (.int .i64 (farW n a b)) ∧ w.grownBy w' none

def MovC : Prop := ∀ (n : Int) (s : ByteArray) (w : World), Calls Tryz.prog 156 #[.int .i64 n, .string s] w fun e w' => e = .returned (.int .i64 (movI n (bl s))) ∧ w.grownBy w' none

theorem far_v (H : FarC) (n a b : Int) {v : Int} (h : farW n a b = v) (w : World) : Calls Tryz.prog 189 #[.int .i64 n, .int .i64 a, .int .i64 b] w fun e w' => e = .returned (.int .i64 v) ∧ w.grownBy w' none := by rw [← h]; exact H n a b w

theorem mov_v (H : MovC) (n : Int) (s : ByteArray) {v : Int} (h : movI n (bl s) = v) (w : World) : Calls Tryz.prog 156 #[.int .i64 n, .string s] w fun e w' => e = .returned (.int .i64 v) ∧ w.grownBy w' none := by rw [← h]; exact H n s w

theorem not_v (n a : Int) {v : Int} (h : notW n a = v) (w : World) : Calls Tryz.prog 193 #[.int .i64 n, .int .i64 a] w fun e w' => e = .returned (.int .i64 v) ∧ w = w' := by rw [← h]; exact not_any n a w

end Go.Proofs.YtlnffpofbfigaaaGreatDoor

/-
  impl's FarOf, AlikeOf, RowOk, RowFar, RowAlike: the generic functions of the library and of the program, and what they are handed: function literals that read the chain's steps. No condition.
-/
namespace Go.Proofs.YtlnffpofbfigaaaGreatDoor
open Go.RowKit

theorem far0_any (n a b : Int) (w : World) :
    Calls Tryz.prog 189 #[.int .i64 n, .int .i64 a, .int .i64 b] w fun e w' => e = .returned (.int .i64 (farW n a b)) ∧ w = w' := by
  cases h1 : vokB n a
  · have h : twoB n a b = false := by unfold twoB; rw [h1]; rfl
    rw [farW_f h]
    clear h
    go_enter Tryz.func189, Tryz.ntmps189
    go_wp2_with (go_at_call 58; refine (vok_any _ _ _).mono ?_; rintro e w' ⟨rfl, rfl⟩)
    go_ret
    exact ⟨rfl, rfl⟩
  · cases h2 : vokB n b
    · have h : twoB n a b = false := by unfold twoB; rw [h1, h2]; rfl
      rw [farW_f h]
      clear h
      go_enter Tryz.func189, Tryz.ntmps189
      go_wp2_with (go_at_call 58; refine (vok_any _ _ _).mono ?_; rintro e w' ⟨rfl, rfl⟩)
      go_ret
      exact ⟨rfl, rfl⟩
    · rw [farW_t (twoB_mk h1 h2)]
      have k1 := vokB_of h1
      have k2 := vokB_of h2
      unfold gap
      by_cases hc : a ≤ b
      · rw [if_pos hc]
        go_enter Tryz.func189, Tryz.ntmps189
        go_wp2_with (go_at_call 58; refine (vok_any _ _ _).mono ?_; rintro e w' ⟨rfl, rfl⟩)
        all_goals
          go_ret
          exact ⟨by first | rfl | (refine congrArg (fun z : Int => Ending.returned (Value.int .i64 z)) ?_; omega), rfl⟩
      · rw [if_neg hc]
        go_enter Tryz.func189, Tryz.ntmps189
        go_wp2_with (go_at_call 58; refine (vok_any _ _ _).mono ?_; rintro e w' ⟨rfl, rfl⟩)
        all_goals
          go_ret
          exact ⟨by first | rfl | (refine congrArg (fun z : Int => Ending.returned (Value.int .i64 z)) ?_; omega), rfl⟩
theorem far_any : FarC := fun n a b w => (far0_any n a b w).mono fun _ _ h => ⟨h.1, by rw [h.2]; exact grownBy_refl _ _⟩

theorem all_no {n : Int} {l : List Int} {k : Nat} (hk : k < l.length) (h : vokB n (l.getD k 0) = false) : l.all (vokB n) = false := by
  rw [List.all_eq_false]
  refine ⟨l[k], List.getElem_mem hk, ?_⟩
  rw [List.getD_eq_getElem?_getD, List.getElem?_eq_getElem hk, Option.getD_some] at h
  rw [h]; simp
theorem all_yes {n : Int} {l : List Int} (h : ∀ j, j < l.length → vokB n (l.getD j 0) = true) : l.all (vokB n) = true := by
  rw [List.all_eq_true]
  intro x hx
  obtain ⟨j, hj, rfl⟩ := List.mem_iff_getElem.1 hx
  have := h j hj
  rwa [List.getD_eq_getElem?_getD, List.getElem?_eq_getElem hj, Option.getD_some] at this

/-- The place of the first one that is no value, or one below 0: told by its sign alone. -/
def IdxPost (n : Int) (xs : List Int) (w : World) (e : Ending) (w' : World) : Prop := ∃ r : Int, e = .returned (.int .i64 r) ∧ decide (r ≥ 0) = (!xs.all (vokB n)) ∧ w = w'

theorem rowB_all {n : Int} {l : List Int} (h : 1 ≤ l.length ∧ l.length ≤ 7) : rowB n l = l.all (vokB n) := by
  unfold rowB
  rw [inB_t (n := (l.length : Int)) (by omega), Bool.and_true]
  cases hi : inB n 1 6
  · rw [Bool.false_and]
    refine (all_no (k := 0) (by omega) ?_).symm
    cases hv : vokB n (l.getD 0 0)
    · rfl
    · have := vokB_of hv
      rw [inB_t (by omega)] at hi
      cases hi
  · rw [Bool.true_and]
theorem rowB_len {n : Int} {l : List Int} (h : ¬ (1 ≤ l.length ∧ l.length ≤ 7)) : rowB n l = false := by
  cases e : rowB n l
  · rfl
  · exact absurd (rowB_of e).2.1 h

def FoRel (f : Nat → Int) (x : List Int) (w : World) (s i : Value) (wr : World) : Prop := ∃ k : Nat, k ≤ x.length ∧ i = .int .i64 k ∧ s = .int .i64 (f k) ∧ w = wr

end Go.Proofs.YtlnffpofbfigaaaGreatDoor

/-
  impl.MovesOf: a range over what impl.settings yields, in which a function literal keeps how far it is at most. No condition.
-/
namespace Go.Proofs.YtlnffpofbfigaaaGreatDoor
open Go.RowKit Go.Shelf
attribute [local go_sem] Oper.semAt_some

/-! Plain numbers: moved up from a place is moved down from the place a whole plane further on. -/
def pln (n : Nat) : Nat := (n + 1) * (n + 1)
theorem cub_pln (n : Nat) : cub n = n * pln n + pln n := by
  unfold cub pln
  rw [show (n + 1) * (n + 1) * (n + 1) = (n + 1) * ((n + 1) * (n + 1)) from Nat.mul_assoc _ _ _, Nat.add_mul n 1, Nat.one_mul]
theorem pln_A (n k : Nat) : (k + pln n) / (n + 1) / (n + 1) = k / (n + 1) / (n + 1) + 1 := by
  unfold pln
  rw [Nat.add_mul_div_right _ _ (by omega), Nat.add_div_right _ (by omega)]
theorem pln_B (n k : Nat) : tB n (k + pln n) = tB n k := by
  unfold tB pln
  rw [Nat.add_mul_div_right _ _ (by omega), Nat.add_mod_right]
theorem pln_C (n k : Nat) : tC n (k + pln n) = tC n k := by
  unfold tC pln
  rw [Nat.add_mul_mod_self_right]
theorem A_low {n k : Nat} (h : k < n * pln n) : tA n k < n := by
  rw [tA_eq (by rw [cub_pln]; omega), Nat.div_div_eq_div_mul]
  exact (Nat.div_lt_iff_lt_mul (show 0 < (n + 1) * (n + 1) from Nat.mul_pos (by omega) (by omega))).2 h
theorem A_top {n k : Nat} (h : n * pln n ≤ k) (hk : k < cub n) : tA n k = n := by
  have h1 := tA_le n k
  have h2 : n ≤ tA n k := by
    rw [tA_eq hk, Nat.div_div_eq_div_mul]
    exact (Nat.le_div_iff_mul_le (show 0 < (n + 1) * (n + 1) from Nat.mul_pos (by omega) (by omega))).2 h
  omega

/-- What is farthest of what was and what comes. -/
def farM (s g : Int) : Int := if g ≤ s then s else g
/-- How far a place is from the one a whole plane further on. -/
def upG (n : Nat) (t : Tr) (k : Nat) : Int := gap (atK n t k) (t.val n ((tA n k : Int) + 1) (tB n k) (tC n k))
def upL (n : Nat) (t : Tr) (pre : List Nat) : Int := pre.foldl (fun s k => if tA n k = n then s else farM s (upG n t k)) 0
theorem upL_s0 {n : Nat} {t : Tr} {pre : List Nat} {x : Nat} (h : tA n x = n) : upL n t (pre ++ [x]) = upL n t pre := by
  unfold upL; rw [List.foldl_append]; exact if_pos h
theorem upL_s1 {n : Nat} {t : Tr} {pre : List Nat} {x : Nat} (h : ¬ tA n x = n) : upL n t (pre ++ [x]) = farM (upL n t pre) (upG n t x) := by
  unfold upL; rw [List.foldl_append]; exact if_neg h
theorem movU_low (n : Nat) (t : Tr) : ∀ k, k ≤ pln n → movU n t k = 0 := by
  intro k
  induction k with
  | zero => intro _; rfl
  | succ k ih =>
    intro hk
    show (if k / (n + 1) / (n + 1) = 0 then _ else _) = _
    rw [if_pos (by rw [Nat.div_div_eq_div_mul]; exact Nat.div_eq_of_lt hk)]
    exact ih (by omega)
theorem upL_range (n : Nat) (t : Tr) : ∀ k, k ≤ n * pln n → upL n t (List.range k) = movU n t (k + pln n) := by
  intro k
  induction k with
  | zero => intro _; rw [Nat.zero_add, movU_low n t _ (Nat.le_refl _)]; rfl
  | succ k ih =>
    intro hk
    have hA := A_low (n := n) (k := k) (by omega)
    have hc : k + pln n < cub n := by rw [cub_pln]; omega
    have e1 : tA n (k + pln n) = tA n k + 1 := by rw [tA_eq hc, pln_A, tA_eq (by omega)]
    rw [List.range_succ, upL_s1 (show ¬ tA n k = n by omega), ih (by omega), show k + 1 + pln n = (k + pln n) + 1 by omega]
    show _ = (if (k + pln n) / (n + 1) / (n + 1) = 0 then _ else _)
    rw [if_neg (show ¬ (k + pln n) / (n + 1) / (n + 1) = 0 by rw [pln_A]; exact Nat.succ_ne_zero _), e1, pln_B, pln_C]
    unfold farM upG atK
    rw [show (((tA n k + 1 : Nat) : Int)) = (tA n k : Int) + 1 by omega, show ((tA n k : Int) + 1 - 1) = (tA n k : Int) by omega, gap_sym (t.val n ((tA n k : Int) + 1) _ _)]
theorem upL_top (n : Nat) (t : Tr) : ∀ j, n * pln n + j ≤ cub n → upL n t (List.range (n * pln n + j)) = movU n t (cub n) := by
  intro j
  induction j with
  | zero => intro _; rw [Nat.add_zero, upL_range n t _ (Nat.le_refl _), ← cub_pln]
  | succ j ih =>
    intro hj
    rw [show n * pln n + (j + 1) = (n * pln n + j) + 1 by omega, List.range_succ, upL_s0 (A_top (by omega) (by omega))]
    exact ih (by omega)
theorem upL_all (n : Nat) (t : Tr) : upL n t (List.range (cub n)) = movU n t (cub n) := by
  have := upL_top n t (pln n) (by rw [← cub_pln]; exact Nat.le_refl _)
  rwa [← cub_pln] at this

/-! The function literal. -/
set_option maxHeartbeats 1000000 in
theorem keep_any (n m p q : Int) (F B : Nat) (w : World) (hF : w.cell? ⟨F, 0, none⟩ = some (.int .i64 m)) (hf : w.frozen? ⟨F, 0, none⟩ = false) (hB : w.cell? ⟨B, 0, none⟩ = some (.int .i64 n)) (ht : twoB n p q = true) :
    Calls Tryz.prog 188 #[.int .i64 p, .int .i64 q, .pointer (some ⟨F, 0, none⟩), .pointer (some ⟨B, 0, none⟩)] w fun e w' => (∃ v, e = .returned v) ∧ w' = w.drew.setCell ⟨F, 0, none⟩ (.int .i64 (farM m (gap p q))) := by
  have c1 := fun w => far0_any n p q w
  rw [farW_t ht] at c1
  clear ht
  generalize gap p q = g at *
  unfold farM
  have hmx : Tryz.prog.follows .mixedOrders = true := by kernel_rfl
  by_cases hc : g ≤ m
  · rw [if_pos hc]
    go_enter Tryz.func188, Tryz.ntmps188
    go_wp2_with fail
    go_region_with (go_at_call 189; refine (c1 _).mono ?_; rintro e w' ⟨rfl, rfl⟩)
    all_goals
      go_wp2_with fail
      go_end0
      exact ⟨⟨_, rfl⟩, rfl⟩
  · rw [if_neg hc]
    go_enter Tryz.func188, Tryz.ntmps188
    go_wp2_with fail
    go_region_with (go_at_call 189; refine (c1 _).mono ?_; rintro e w' ⟨rfl, rfl⟩)
    all_goals
      go_wp2_with fail
      go_end0
      exact ⟨⟨_, rfl⟩, rfl⟩

/-! A region that draws its order, in a round of a loop over a function. -/

/-- Behind it all goes on. -/
def Norm (Q : Exit → Act → World → Prop) : Exit → Act → World → Prop := fun e a w => e = .normal ∧ Q e a w

theorem op_round {P : Program} {ops : Array Oper} {Q : Exit → Act → World → Prop} (l n i : Nat) {K K' : Act → World → Prop} {a : Act} {w : World} (hK : ∀ a w, K a w → K' a w)
    (hnd : ∀ (i : Nat) (o : Oper) (c : _), ops[i]? = some o → o.op ≠ .defer c) (h : wpOp P ops (Norm Q) i K a w) : wpOpIn (Fence.wide.inRound l) n P ops Q i K' a w := by
  unfold wpOp at h
  unfold wpOpIn
  cases ho : ops[i]? with
  | none => simp only [ho] at h ⊢; exact hK _ _ h
  | some o =>
    simp only [ho] at h ⊢
    split
    · rename_i hw
      simp only [hw, if_true] at h
      rcases h with h | ⟨_, x, y, hl, _⟩
      · unfold Oper.wp at h
        unfold Oper.wpIn
        refine ⟨fun _ _ => trivial, ?_⟩
        rw [Oper.semAt_plain _ _ _ fun c => hnd i o c ho]
        generalize (execOp a.eval o).run P w = r at *
        cases r with
        | ok x w' =>
          cases x <;> simp only [Oper.upon, Oper.uponIn] at h ⊢
          case value v => exact hK _ _ h
          case skip => exact hK _ _ h
          case defer d => exact hK _ _ h
          case enter f args =>
            refine ⟨fun hd => (by cases hd), CallsIn.inRound l ((callsIn_wide.2 h).mono ?_)⟩
            intro e w2 he
            cases e with
            | returned v => exact hK _ _ he
            | panicked c => exact absurd he.1 (by simp)
            | outgrown => obtain ⟨_, _, hl, _⟩ := he; cases hl
          case row r args =>
            refine ⟨fun hd => (by cases hd), ?_⟩
            intro c cs _
            obtain ⟨v, w2, h1, h2⟩ := h c cs
            exact ⟨v, w2, hK _ _ h1, stepsIn_wide.2 h2⟩
        | halt x w' =>
          cases x <;> simp only [Oper.upon, Oper.uponIn] at h ⊢
          case panic v => exact absurd h.1 (by simp)
      · cases hl
    · rename_i hw
      simp only [hw] at h
      exact ⟨fun _ _ => trivial, hK _ _ h⟩

theorem any_round {P : Program} {ops : Array Oper} {Q : Exit → Act → World → Prop} {md : Region.Mode} {S : World → Prop} (l n : Nat) (hnd : ∀ (i : Nat) (o : Oper) (c : _), ops[i]? = some o → o.op ≠ .defer c) :
    ∀ (fuel : Nat) (listed : Array Bool) (a : Act) (w : World), wpAnyH P md ops (Norm Q) S fuel listed a w → wpAnyIn (Fence.wide.inRound l) n P md ops Q fuel listed a w := by
  intro fuel
  induction fuel with
  | zero => intro listed a w h; exact ⟨h.1, h.2.2⟩
  | succ fuel ih => intro listed a w h; exact ⟨fun h0 => (h.1 h0).2, fun i hi => op_round l n i (fun a' w' h' => ih _ a' w' h'.2) hnd (h.2 i hi)⟩

def noDefer (ops : Array Oper) : Bool := ops.toList.all fun o => match o.op with | .defer _ => false | _ => true
theorem noDefer_of {ops : Array Oper} (h : noDefer ops = true) (i : Nat) (o : Oper) (c : _) (ho : ops[i]? = some o) : o.op ≠ .defer c := fun e => by
  have := List.all_eq_true.1 h o (by rw [Array.mem_toList_iff]; exact Array.mem_of_getElem? ho)
  rw [e] at this
  cases this

theorem region_round {P : Program} {ops : Array Oper} {Q : Exit → Act → World → Prop} {S : World → Prop} {l n id : Nat} {a : Act} {w : World} (hm : P.follows .mixedOrders = true) (hnd : noDefer ops = true) (hS : S w.drew)
    (h : S w.drew → wpAnyH P .any ops (Norm Q) S ops.size (Array.replicate ops.size false) a w.drew) : (Code.region id ops true).wpIn (Fence.wide.inRound l) n P Q a w :=
  wpIn_region_any hm (any_round l n (noDefer_of hnd) _ _ _ _ (h hS))

theorem tak_on {P : Program} {ops : Array Oper} {Q : Exit → Act → World → Prop} {md : Region.Mode} {S : World → Prop} (i d : Nat) {oi : Oper} {v : Value} {fuel : Nat} {listed : Array Bool} {a : Act} {w : World} (hi : ops[i]? = some oi) (hd : oi.dst = some d) (hs : Region.noSelect ops = true) (hf : Region.free md ops listed i = true) (hr : (Region.ready md ops listed).contains i = true)
    (hw : Region.wanted oi (yielded ops a.tmps) = true) (hy : ∀ w, S w → (execOp a.eval oi).run P w = .ok (.value v) w) (hS : S w) (h : wpAnyH P md ops (Norm Q) S fuel (listed.setIfInBounds i true) (a.put (some d) v) w) : wpAnyH P md ops (Norm Q) S (fuel + 1) listed a w :=
  wpAnyH_take hi hs hf hr (fun _ _ _ h => by cases h.1) (Or.inl ⟨hw, hy⟩) hS (by rw [hd]; exact h)

/-! What lies before impl.MovesOf's loop: the steps at B, the rest from block b on. -/
def MvBlk (B b N : Nat) (t : Tr) (v : Int) (W : World) : Prop :=
  BlkAt W B #[.int .i64 N] 3 ∧ BlkAt W b #[.iface (nodeT t) (nodeP t)] 131 ∧ BlkAt W (b + 1) #[.int .i64 v] 3 ∧
  BlkAt W (b + 1 + 1) #[.func (.func 188) #[] #[.pointer (some ⟨b + 1, 0, none⟩), .pointer (some ⟨B, 0, none⟩)]] 201 ∧ BlkAt W (b + 1 + 1 + 1) #[.int .i64 N] 3

theorem MvBlk.grown {B b N : Nat} {t : Tr} {v : Int} {W W' : World} (h : MvBlk B b N t v W) (hg : W.grownBy W' none) : MvBlk B b N t v W' :=
  ⟨h.1.grown hg, h.2.1.grown hg, h.2.2.1.grown hg, h.2.2.2.1.grown hg, h.2.2.2.2.grown hg⟩
theorem MvBlk.put {B b N : Nat} {t : Tr} {v : Int} {W : World} (h : MvBlk B b N t v W) (hB : B < b) (u : Int) : MvBlk B b N t u (W.setCell ⟨b + 1, 0, none⟩ (.int .i64 u)) :=
  ⟨h.1.other (by simp <;> omega) _, h.2.1.other (by simp) _, h.2.2.1.set 0 _, h.2.2.2.1.other (by simp <;> omega) _, h.2.2.2.2.other (by simp <;> omega) _⟩
theorem MvBlk.own {β : Type} (B b N : Nat) (t : Tr) (f : β → Int) : Own (fun s W => MvBlk B b N t (f s) W) :=
  Own.and (blk_own _ _ _) (Own.and (blk_own _ _ _) (Own.and (blk_own _ _ fun s => #[.int .i64 (f s)]) (Own.and (blk_own _ _ _) (blk_own _ _ _))))
theorem MvBlk.made (B N : Nat) (t : Tr) (w : World) (hB : BlkAt w B #[.int .i64 N] 3) : MvBlk B w.heap.size N t 0 ((((w.alloc (.cells #[.iface (nodeT t) (nodeP t)] 131)).alloc (.cells #[.int .i64 0] 3)).alloc (.cells #[(.func (.func 188) #[] #[.pointer (some ⟨w.heap.size + 1, 0, none⟩), .pointer (some ⟨B, 0, none⟩)])] 201)).alloc (.cells #[.int .i64 N] 3)) := by
  have h0 := BlkAt.new w #[.iface (nodeT t) (nodeP t)] 131
  have kB := hB.alloc (.cells #[.iface (nodeT t) (nodeP t)] 131)
  generalize hw0 : w.alloc (.cells #[.iface (nodeT t) (nodeP t)] 131) = w0 at *
  have e0 : w0.heap.size = w.heap.size + 1 := by rw [← hw0]; simp
  have h1 := BlkAt.new w0 #[.int .i64 0] 3
  have g1 : w0.grownBy (w0.alloc (.cells #[.int .i64 0] 3)) none := World.grownBy_alloc _ _ none
  generalize hw1 : w0.alloc (.cells #[.int .i64 0] 3) = w1 at *
  have e1 : w1.heap.size = w.heap.size + 1 + 1 := by rw [← hw1]; simp [e0]
  have h2 := BlkAt.new w1 #[(.func (.func 188) #[] #[.pointer (some ⟨w.heap.size + 1, 0, none⟩), .pointer (some ⟨B, 0, none⟩)])] 201
  have g2 : w1.grownBy (w1.alloc (.cells #[(.func (.func 188) #[] #[.pointer (some ⟨w.heap.size + 1, 0, none⟩), .pointer (some ⟨B, 0, none⟩)])] 201)) none := World.grownBy_alloc _ _ none
  generalize hw2 : w1.alloc (.cells #[(.func (.func 188) #[] #[.pointer (some ⟨w.heap.size + 1, 0, none⟩), .pointer (some ⟨B, 0, none⟩)])] 201) = w2 at *
  have e2 : w2.heap.size = w.heap.size + 1 + 1 + 1 := by rw [← hw2]; simp [e1]
  have h3 := BlkAt.new w2 #[.int .i64 N] 3
  have g3 : w2.grownBy (w2.alloc (.cells #[.int .i64 N] 3)) none := World.grownBy_alloc _ _ none
  rw [e0] at h1
  rw [e1] at h2
  rw [e2] at h3
  exact ⟨kB.grown (grownBy_trans g1 (grownBy_trans g2 g3)), h0.grown (grownBy_trans g1 (grownBy_trans g2 g3)), h1.grown (grownBy_trans g2 g3), h2.grown g3, h3⟩

set_option maxRecDepth 100000 in
set_option maxHeartbeats 4000000 in
theorem mov_yes (N : Nat) (hN : 1 ≤ N ∧ N ≤ 6) (s : ByteArray) (w : World) {t : Tr} (ho : fOf (bl s) = some t) :
    Calls Tryz.prog 156 #[.int .i64 N, .string s] w fun e w' => e = .returned (.int .i64 (movU N t (cub N))) ∧ w.grownBy w' none := by
  have n0 : (w.alloc (.cells #[.int .i64 N] 3)).cell? ⟨w.heap.size, 0, none⟩ = some (.int .i64 N) := (BlkAt.new w #[.int .i64 N] 3).cell rfl
  have cc := chain_yes s (w.alloc (.cells #[.int .i64 N] 3)) (inB_t (n := N) (by omega)) ho
  have hn1 := fun w1 (g : (w.alloc (.cells #[.int .i64 N] 3)).grownBy w1 none) => (BlkAt.new w #[.int .i64 N] 3).grown g
  have hn3 : ∀ w1, (w.alloc (.cells #[.int .i64 N] 3)).grownBy w1 none → ∀ o1 o2 o3, (((w1.alloc o1).alloc o2).alloc o3).cell? ⟨w.heap.size, 0, none⟩ = some (.int .i64 N) := fun w1 g o1 o2 o3 => cell_grown (cell_grown n0 g) (grownBy_trans (World.grownBy_alloc w1 o1 none) (grownBy_trans (World.grownBy_alloc _ o2 none) (World.grownBy_alloc _ o3 none)))
  clear ho
  refine (callsIn_wide (n := 5)).1 ?_
  refine callsIn_of_wp_marks Tryz.func156 rfl trivial ?_ rfl
  simp only [Tryz.ntmps156, List.size_toArray, List.length_cons, List.length_nil, Nat.reduceAdd, Nat.reduceSub, Array.replicate_succ, Array.replicate_zero, List.push_toArray, List.append_toArray, List.nil_append, List.cons_append]
  gi_wp2_with (refine ⟨trivial, ?_⟩; gi_at_call 163; refine (callsIn_wide.2 cc).mono ?_; rintro e w1 ⟨rfl, g1⟩; have n3 := hn3 _ g1)
  clear cc
  have hb1 := hn1 _ g1
  have n1 : w1.cell? ⟨w.heap.size, 0, none⟩ = some (.int .i64 N) := hb1.cell rfl
  have hlt1 : w.heap.size < w1.heap.size := hb1.lt
  have g3 : w1.grownBy (((w1.alloc (.cells #[.iface (nodeT t) (nodeP t)] 131)).alloc (.cells #[.int .i64 0] 3)).alloc (.cells #[(.func (.func 188) #[] #[.pointer (some ⟨w1.heap.size + 1, 0, none⟩), .pointer (some ⟨w.heap.size, 0, none⟩)])] 201)) none := grownBy_trans (World.grownBy_alloc w1 (.cells #[.iface (nodeT t) (nodeP t)] 131) none) (grownBy_trans (World.grownBy_alloc _ (.cells #[.int .i64 0] 3) none) (World.grownBy_alloc _ (.cells #[(.func (.func 188) #[] #[.pointer (some ⟨w1.heap.size + 1, 0, none⟩), .pointer (some ⟨w.heap.size, 0, none⟩)])] 201) none))
  gi_wp2_with (refine ⟨trivial, ?_⟩; gi_at_call 186; refine (settings_any _ _ trivial rfl _ _).mono ?_; rintro e w' ⟨rfl, rfl⟩)
  have hM := MvBlk.made w.heap.size N t w1 hb1
  have hg := grownBy_trans (World.grownBy_alloc w (.cells #[.int .i64 N] 3) none) (grownBy_trans g1 (grownBy_trans g3 (World.grownBy_alloc _ (.cells #[.int .i64 N] 3) none)))
  clear n3 hn3 g3 n1 n0 hn1
  obtain ⟨W0, hW0⟩ : ∃ W0, ((((w1.alloc (.cells #[.iface (nodeT t) (nodeP t)] 131)).alloc (.cells #[.int .i64 0] 3)).alloc (.cells #[(.func (.func 188) #[] #[.pointer (some ⟨w1.heap.size + 1, 0, none⟩), .pointer (some ⟨w.heap.size, 0, none⟩)])] 201)).alloc (.cells #[.int .i64 N] 3)) = W0 := ⟨_, rfl⟩
  rw [hW0] at hM hg ⊢
  have hsz : W0.heap.size = w1.heap.size + 1 + 1 + 1 + 1 := by rw [← hW0]; simp
  clear hW0
  have hB0 : Below w.heap.size w W0 := below_of hg
  clear hg
  refine wpIn_rangeFunc_ownH rfl (show 1 ≤ 5 from by decide) (gf := 206) (lb := #[.pointer (some ⟨w1.heap.size + 1 + 1 + 1, 0, none⟩)]) rfl trivial (enters_of Tryz.func206 (by kernel_rfl) rfl)
    (settings_stops Fence.wide (5 - 1) trivial rfl (by decide) (w1.heap.size + 1 + 1 + 1) N hN W0 (by omega) (hM.2.2.2.2.cell rfl)) kpC_t (kpC_b (by omega)) (Below.refl _ _) (fun _ => rfl)
    (fun pre W => MvBlk w.heap.size w1.heap.size N t (upL N t pre) W ∧ Below w.heap.size w W)
    (fun _ _ _ => False)
    (OwnFrom.and (Own.from (MvBlk.own _ _ _ _ (fun pre => upL N t pre)) _) (ownFrom_below (Nat.le_refl _) (by omega)))
    (fun _ _ _ _ _ hs _ _ => hs)
    ⟨hM, hB0⟩
    (fun x a' W => ∃ b, w1.heap.size + 1 + 1 + 1 < b ∧ BlkAt W b (set4 N x) 164 ∧ a' = { tmps := #[.int .i64 N, .string s, .pointer (some ⟨w.heap.size, 0, none⟩), undef, .int .i64 0, .pointer (some ⟨w1.heap.size, 0, none⟩), .bool true, .pointer (some ⟨w1.heap.size + 1, 0, none⟩), .pointer (some ⟨w1.heap.size + 1 + 1, 0, none⟩), .pointer (some ⟨b, 0, none⟩), undef, .tuple #[.iface (nodeT t) (nodeP t), .bool true], .int .i64 N, .string s, .tuple #[.iface (nodeT t) (nodeP t), .bool true], .iface (nodeT t) (nodeP t), .bool true, .bool true, .bool false, (.func (.func 188) #[] #[.pointer (some ⟨w1.heap.size + 1, 0, none⟩), .pointer (some ⟨w.heap.size, 0, none⟩)]), .int .i64 N, .func (.func 206) #[] #[.pointer (some ⟨w1.heap.size + 1 + 1 + 1, 0, none⟩)], .agg #[.int .i64 N, .int .i64 (tA N x), .int .i64 (tB N x), .int .i64 (tC N x)], undef, undef, undef, undef, undef, undef, undef, undef, undef, undef, undef, undef, undef, undef, undef, undef, undef, undef], defers := [] })
    (fun x a' => Own.from (fun s A B row hs hg hr => by obtain ⟨b, h1, h2, h3⟩ := hs; exact ⟨b, h1, blk_own (β := Unit) b _ (fun _ => set4 N x) () A B row h2 hg hr, h3⟩) _) ?assign ?body ?done ?stop
  case assign =>
    rintro l pre x W K ⟨hA, hB⟩ hK
    simp only [encK]
    gi_wp2
    exact hK _ _ ((KeepsOthers.alloc _ _).from _) (KpC.grown hA.2.2.2.2.lt (World.grownBy_alloc _ _ none)) ⟨hA.grown (World.grownBy_alloc _ _ none), hB.alloc hB.size _⟩ ⟨W.heap.size, hA.2.2.2.2.lt, BlkAt.new W _ _, rfl⟩
  case body =>
    rintro l pre x a' W hl ⟨r, hr⟩ ⟨hA, hB⟩ ⟨b, hb, hbx, rfl⟩ hlt
    have x0 : W.cell? ⟨b, 0, none⟩ = some (.int .i64 N) := hbx.cell rfl
    have x1 : W.cell? ⟨b, 1, none⟩ = some (.int .i64 (tA N x)) := hbx.cell rfl
    have x2 : W.cell? ⟨b, 2, none⟩ = some (.int .i64 (tB N x)) := hbx.cell rfl
    have x3 : W.cell? ⟨b, 3, none⟩ = some (.int .i64 (tC N x)) := hbx.cell rfl
    have cs := setting_any (N : Int) ((tA N x : Int) + 1) (tB N x) (tC N x)
    have a0 := tA_le N x
    have b0 := tB_le N x
    have c0 := tC_le N x
    have hWb : b < W.heap.size := hbx.lt
    by_cases hA1 : tA N x = N
    · have hth : thrB (N : Int) ((tA N x : Int) + 1) (tB N x) (tC N x) = false := thrB_f1 (by
        cases hv : vokB (N : Int) ((tA N x : Int) + 1)
        · rfl
        · have := vokB_of hv; omega)
      have hA2 := Lib.hid hA1
      clear hA1
      rw [hth] at cs
      gi_wp2_with (refine ⟨trivial, ?_⟩; gi_at_call 159; refine (CallsIn.inRound l (callsIn_wide.2 (cs _))).mono ?_; rintro e w2 ⟨rfl, g2⟩)
      have g := grownBy_trans (World.grownBy_alloc W (.cells #[.int .i64 N, .int .i64 ((tA N x : Int) + 1), .int .i64 (tB N x), .int .i64 (tC N x)] 164) none) g2
      exact ⟨(KeepsOthers.of_grownBy g (by simp)).from _, KpC.grown hA.2.2.2.2.lt g, by rw [upL_s0 hA2.out]; exact hA.grown g, hB.trans ((below_of g).mono hB.size)⟩
    · have ht0 := tri_ok hN x
      have hth : thrB (N : Int) ((tA N x : Int) + 1) (tB N x) (tC N x) = true := by
        obtain ⟨_, h2, h3⟩ := thrB_of ht0
        exact thrB_mk (vokB_t (by omega)) h2 h3
      rw [hth] at cs
      gi_wp2_with (refine ⟨trivial, ?_⟩; gi_at_call 159; refine (CallsIn.inRound l (callsIn_wide.2 (cs _))).mono ?_; rintro e w2 ⟨rfl, g2⟩)
      have g0 := World.grownBy_alloc W (.cells #[.int .i64 N, .int .i64 ((tA N x : Int) + 1), .int .i64 (tB N x), .int .i64 (tC N x)] 164) none
      have hn2 := (BlkAt.new W #[.int .i64 N, .int .i64 ((tA N x : Int) + 1), .int .i64 (tB N x), .int .i64 (tC N x)] 164).grown g2
      have g := grownBy_trans g0 g2
      have hA2 := hA.grown g
      have hb2 := hbx.grown g
      have hB2 := hB.trans ((below_of g).mono hB.size)
      have cv : ∀ w : World, Calls Tryz.prog 160 #[.agg #[.int .i64 N, .int .i64 (tA N x), .int .i64 (tB N x), .int .i64 (tC N x)], .iface (nodeT t) (nodeP t)] w fun e w' => e = .returned (.int .i64 (atK N t x)) ∧ w.grownBy w' none := vt_all ht0 t
      have cu : ∀ w : World, Calls Tryz.prog 160 #[.agg #[.int .i64 N, .int .i64 ((tA N x : Int) + 1), .int .i64 (tB N x), .int .i64 (tC N x)], .iface (nodeT t) (nodeP t)] w fun e w' => e = .returned (.int .i64 (t.val N ((tA N x : Int) + 1) (tB N x) (tC N x))) ∧ w.grownBy w' none := vt_all hth t
      have h2p : twoB N (atK N t x) (t.val N ((tA N x : Int) + 1) (tB N x) (tC N x)) = true := twoB_mk (val_ok ht0 t) (val_ok hth t)
      have ck := fun w' hF hf hB => keep_any (N : Int) (upL N t pre) (atK N t x) (t.val N ((tA N x : Int) + 1) (tB N x) (tC N x)) (w1.heap.size + 1) w.heap.size w' hF hf hB h2p
      have hup : Hid (upL N t (pre ++ [x]) = farM (upL N t pre) (gap (atK N t x) (t.val N ((tA N x : Int) + 1) (tB N x) (tC N x)))) := upL_s1 hA1
      have hS : w2.drew.cell? ⟨w1.heap.size + 1 + 1, 0, none⟩ = some (.func (.func 188) #[] #[.pointer (some ⟨w1.heap.size + 1, 0, none⟩), .pointer (some ⟨w.heap.size, 0, none⟩)]) ∧ w2.drew.cell? ⟨w1.heap.size, 0, none⟩ = some (.iface (nodeT t) (nodeP t)) ∧ w2.drew.cell? ⟨b, 0, none⟩ = some (.int .i64 N) ∧ w2.drew.cell? ⟨b, 1, none⟩ = some (.int .i64 (tA N x)) ∧ w2.drew.cell? ⟨b, 2, none⟩ = some (.int .i64 (tB N x)) ∧ w2.drew.cell? ⟨b, 3, none⟩ = some (.int .i64 (tC N x)) ∧ w2.drew.cell? ⟨W.heap.size, 0, none⟩ = some (.int .i64 N) ∧ w2.drew.cell? ⟨W.heap.size, 1, none⟩ = some (.int .i64 ((tA N x : Int) + 1)) ∧ w2.drew.cell? ⟨W.heap.size, 2, none⟩ = some (.int .i64 (tB N x)) ∧ w2.drew.cell? ⟨W.heap.size, 3, none⟩ = some (.int .i64 (tC N x)) := ⟨hA2.2.2.2.1.cell rfl, hA2.2.1.cell rfl, hb2.cell rfl, hb2.cell rfl, hb2.cell rfl, hb2.cell rfl, hn2.cell rfl, hn2.cell rfl, hn2.cell rfl, hn2.cell rfl⟩
      generalize t.val N ((tA N x : Int) + 1) (tB N x) (tC N x) = q at *
      generalize atK N t x = p at *
      refine region_round (S := fun w' => w'.cell? ⟨w1.heap.size + 1 + 1, 0, none⟩ = some (.func (.func 188) #[] #[.pointer (some ⟨w1.heap.size + 1, 0, none⟩), .pointer (some ⟨w.heap.size, 0, none⟩)]) ∧ w'.cell? ⟨w1.heap.size, 0, none⟩ = some (.iface (nodeT t) (nodeP t)) ∧ w'.cell? ⟨b, 0, none⟩ = some (.int .i64 N) ∧ w'.cell? ⟨b, 1, none⟩ = some (.int .i64 (tA N x)) ∧ w'.cell? ⟨b, 2, none⟩ = some (.int .i64 (tB N x)) ∧ w'.cell? ⟨b, 3, none⟩ = some (.int .i64 (tC N x)) ∧ w'.cell? ⟨W.heap.size, 0, none⟩ = some (.int .i64 N) ∧ w'.cell? ⟨W.heap.size, 1, none⟩ = some (.int .i64 ((tA N x : Int) + 1)) ∧ w'.cell? ⟨W.heap.size, 2, none⟩ = some (.int .i64 (tB N x)) ∧ w'.cell? ⟨W.heap.size, 3, none⟩ = some (.int .i64 (tC N x))) (by kernel_rfl) (by kernel_rfl) hS (fun hH => ?_)
      refine tak_on 0 32 (v := ?v0) rfl rfl (by kernel_rfl) (by kernel_rfl) (by kernel_rfl) (by rfl) ?y0 hH ?r0
      case y0 => (intro w hSw; obtain ⟨z0, z1, z2, z3, z4, z5, z6, z7, z8, z9⟩ := hSw; go_simp; try with_reducible rfl)
      simp only [Act.put, List.setIfInBounds_toArray, List.set_cons_zero, List.set_cons_succ]
      refine tak_on 1 33 (v := ?v1) rfl rfl (by kernel_rfl) (by kernel_rfl) (by kernel_rfl) (by rfl) ?y1 hH ?r1
      case y1 => (intro w hSw; obtain ⟨z0, z1, z2, z3, z4, z5, z6, z7, z8, z9⟩ := hSw; go_simp; try with_reducible rfl)
      simp only [Act.put, List.setIfInBounds_toArray, List.set_cons_zero, List.set_cons_succ]
      refine tak_on 2 34 (v := ?v2) rfl rfl (by kernel_rfl) (by kernel_rfl) (by kernel_rfl) (by rfl) ?y2 hH ?r2
      case y2 => (intro w hSw; obtain ⟨z0, z1, z2, z3, z4, z5, z6, z7, z8, z9⟩ := hSw; go_simp; try with_reducible rfl)
      simp only [Act.put, List.setIfInBounds_toArray, List.set_cons_zero, List.set_cons_succ]
      refine tak_on 4 36 (v := ?v4) rfl rfl (by kernel_rfl) (by kernel_rfl) (by kernel_rfl) (by rfl) ?y4 hH ?r4
      case y4 => (intro w hSw; obtain ⟨z0, z1, z2, z3, z4, z5, z6, z7, z8, z9⟩ := hSw; go_simp; try with_reducible rfl)
      simp only [Act.put, List.setIfInBounds_toArray, List.set_cons_zero, List.set_cons_succ]
      refine tak_on 5 37 (v := ?v5) rfl rfl (by kernel_rfl) (by kernel_rfl) (by kernel_rfl) (by rfl) ?y5 hH ?r5
      case y5 => (intro w hSw; obtain ⟨z0, z1, z2, z3, z4, z5, z6, z7, z8, z9⟩ := hSw; go_simp; try with_reducible rfl)
      simp only [Act.put, List.setIfInBounds_toArray, List.set_cons_zero, List.set_cons_succ]
      refine wpAnyH_ready (rs := [3]) (by kernel_rfl) (by simp) ?_
      refine AllReadyH.cons rfl (fun K hK => ?_) AllReadyH.nil
      go_simp
      (with_reducible refine (cv _).mono ?_); rintro e w3 ⟨rfl, g3⟩
      obtain ⟨z0, z1, z2, z3, z4, z5, z6, z7, z8, z9⟩ := hH
      have hS3 := And.intro (cell_grown z0 g3) (And.intro (cell_grown z1 g3) (And.intro (cell_grown z2 g3) (And.intro (cell_grown z3 g3) (And.intro (cell_grown z4 g3) (And.intro (cell_grown z5 g3) (And.intro (cell_grown z6 g3) (And.intro (cell_grown z7 g3) (And.intro (cell_grown z8 g3) (cell_grown z9 g3)))))))))
      clear z0 z1 z2 z3 z4 z5 z6 z7 z8 z9
      refine hK.out _ _ hS3 (fun h3 => ?_)
      clear hK K hS3
      try simp only [Act.put, List.setIfInBounds_toArray, List.set_cons_zero, List.set_cons_succ]
      refine wpAnyH_ready (rs := [6]) (by kernel_rfl) (by simp) ?_
      refine AllReadyH.cons rfl (fun K hK => ?_) AllReadyH.nil
      go_simp
      (with_reducible refine (cu _).mono ?_); rintro e w4 ⟨rfl, g4⟩
      obtain ⟨z0, z1, z2, z3, z4, z5, z6, z7, z8, z9⟩ := h3
      have hS4 := And.intro (cell_grown z0 g4) (And.intro (cell_grown z1 g4) (And.intro (cell_grown z2 g4) (And.intro (cell_grown z3 g4) (And.intro (cell_grown z4 g4) (And.intro (cell_grown z5 g4) (And.intro (cell_grown z6 g4) (And.intro (cell_grown z7 g4) (And.intro (cell_grown z8 g4) (cell_grown z9 g4)))))))))
      clear z0 z1 z2 z3 z4 z5 z6 z7 z8 z9
      refine hK.out _ _ hS4 (fun h4 => ?_)
      clear hK K hS4
      try simp only [Act.put, List.setIfInBounds_toArray, List.set_cons_zero, List.set_cons_succ]
      have g24 : w2.grownBy w4 none := grownBy_trans (grownBy_drew (grownBy_refl w2 none)) (grownBy_trans g3 g4)
      have hA4 := hA2.grown g24
      have f4 : w4.cell? ⟨w1.heap.size + 1, 0, none⟩ = some (.int .i64 (upL N t pre)) := hA4.2.2.1.cell rfl
      have fz4 := hA4.2.2.1.frozen 0
      have fb4 : w4.cell? ⟨w.heap.size, 0, none⟩ = some (.int .i64 N) := hA4.1.cell rfl
      have ck4 := ck w4 f4 fz4 fb4
      clear ck f4 fz4 fb4
      have hs4 := g.size
      refine wpAnyH_ready (rs := [7]) (by kernel_rfl) (by simp) ?_
      refine AllReadyH.cons rfl (fun K hK => ?_) AllReadyH.nil
      go_simp
      (with_reducible refine ck4.mono ?_); rintro e w5 ⟨⟨v, rfl⟩, rfl⟩
      obtain ⟨z0, z1, z2, z3, z4, z5, z6, z7, z8, z9⟩ := h4
      refine hK.out _ _ ⟨(World.cell?_setCell_far w4.drew _ _ _ (by simp)).trans z0, (World.cell?_setCell_far w4.drew _ _ _ (by simp)).trans z1, (World.cell?_setCell_far w4.drew _ _ _ (by simp; omega)).trans z2, (World.cell?_setCell_far w4.drew _ _ _ (by simp; omega)).trans z3, (World.cell?_setCell_far w4.drew _ _ _ (by simp; omega)).trans z4, (World.cell?_setCell_far w4.drew _ _ _ (by simp; omega)).trans z5, (World.cell?_setCell_far w4.drew _ _ _ (by simp; omega)).trans z6, (World.cell?_setCell_far w4.drew _ _ _ (by simp; omega)).trans z7, (World.cell?_setCell_far w4.drew _ _ _ (by simp; omega)).trans z8, (World.cell?_setCell_far w4.drew _ _ _ (by simp; omega)).trans z9⟩ (fun h5 => ?_)
      clear hK K
      try simp only [Act.put, List.setIfInBounds_toArray, List.set_cons_zero, List.set_cons_succ]
      refine wpAnyH_done (by kernel_rfl) ⟨rfl, ?_⟩ _
      have gW := grownBy_trans g g24
      have hB4 := hB.trans ((below_of gW).mono hB.size)
      gi_wp2
      exact ⟨(((KeepsOthers.of_grownBy gW (by simp)).trans (KeepsOthers.drew _)).trans (KeepsOthers.setCell _ _ _)).from _, kpC_t (KpC.grown hA.2.2.2.2.lt gW) (KpC.set w4.drew (by simp) _), by rw [hup.out]; exact hA4.put (by omega) _, (hB4.drew).setCell (by simp <;> omega) _⟩
  case done =>
    rintro D ys W hD rfl ⟨hA, hB⟩ hK
    rw [upL_all] at hA
    have n0 : W.cell? ⟨w1.heap.size + 1, 0, none⟩ = some (.int .i64 (movU N t (cub N))) := hA.2.2.1.cell rfl
    gi_wp2
    refine ⟨by simp, .inl ⟨_, _, rfl, run_takeDeferred hK, ?_⟩⟩
    exact ⟨_, results_tmp rfl _ _ _, rfl, grown_of (hB.trans (belowK_b (w := w) (Nat.le_refl _) W D _ _ (by omega) hK rfl rfl))⟩
  case stop =>
    rintro D c pre W _ _ h _
    exact h.elim

theorem mov_no (n : Int) (s : ByteArray) (w : World) (h : inB n 1 6 = false ∨ fOf (bl s) = none) :
    Calls Tryz.prog 156 #[.int .i64 n, .string s] w fun e w' => e = .returned (.int .i64 (-1)) ∧ w.grownBy w' none := by
  have cc := chain_no n s (w.alloc (.cells #[.int .i64 n] 3)) h
  have g0 := World.grownBy_alloc w (.cells #[.int .i64 n] 3) none
  clear h
  go_enter Tryz.func156, Tryz.ntmps156
  go_wp2_with fail
  refine cc.mono ?_
  rintro e w1 ⟨v, hv, rfl, g1⟩
  clear cc
  rcases hv with rfl | ⟨T, p, rfl⟩
  all_goals
    go_wp2_with fail
    go_ret
    exact ⟨rfl, grownBy_trans g0 (grownBy_trans g1 (World.grownBy_alloc _ _ none))⟩

theorem mov_any : MovC := fun n s w => by
  cases hi : inB n 1 6
  · rw [movI_o hi]; exact mov_no n s w (.inl hi)
  · cases ho : fOf (bl s) with
    | none => rw [movI_n ho]; exact mov_no n s w (.inr ho)
    | some t =>
      obtain ⟨N, rfl, hN⟩ := nat_of hi
      rw [movI_t ho hi]
      exact mov_yes N hN s w ho

end Go.Proofs.YtlnffpofbfigaaaGreatDoor

/-
  The model's CountSayable. No condition.
-/
namespace Go.Proofs.YtlnffpofbfigaaaGreatDoor
open Go.RowKit

def scnI (n : Int) : Int := if inB n 1 6 = true then (sayN n.toNat : Int) else -1
theorem scnI_o {n : Int} (h : inB n 1 6 = false) : scnI n = -1 := if_neg (by rw [h]; simp)
theorem scnI_t {N : Nat} (h : 1 ≤ N ∧ N ≤ 6) : scnI N = (cntS N (N + 1) : Int) := by unfold scnI; rw [if_pos (inB_nat h)]; rfl
theorem cnt_tab : ([1, 2, 3, 4, 5, 6].all fun n => (List.range (n + 2)).all fun v => decide (cntS n v ≤ 10000) && decide (1 ≤ cntS n v)) = true := by decide +kernel
theorem cntS_le {n v : Nat} (hn : 1 ≤ n ∧ n ≤ 6) (hv : v ≤ n + 1) : 1 ≤ cntS n v ∧ cntS n v ≤ 10000 := by
  have h := List.all_eq_true.1 cnt_tab n (by simp; omega)
  have k := List.all_eq_true.1 h v (List.mem_range.2 (by omega))
  rw [Bool.and_eq_true] at k
  exact ⟨of_decide_eq_true k.2, of_decide_eq_true k.1⟩

end Go.Proofs.YtlnffpofbfigaaaGreatDoor

/-
  What the program's small functions on sets answer: a set of one value, all values, whether a set may be asked, whether one lies within another, and the lowest value of a set by math/bits.TrailingZeros (its table as it is laid).
-/
namespace Go.Proofs.YtlnffpofbfigaaaGreatDoor
open Go.RowKit

/-- The library's table, as it is laid. -/
def TzAt (w : World) : Prop := TabAt 6 Lib.deBruijn64tab w

theorem TzAt.lt {w : World} (h : TzAt w) : 6 < w.heap.size := World.block_lt_of_cell? w _ (h 0 (by decide))

theorem TzAt.kept {w w' : World} (h : TzAt w) (hb : w'.heap[6]? = w.heap[6]?) : TzAt w' := fun j hj => (World.cell?_of_block (w := w) hb).trans (h j hj)

theorem TzAt.grown {w w' : World} (h : TzAt w) (hg : w.grownBy w' none) : TzAt w' := h.kept (hg.block _ h.lt (by simp))

theorem TzAt.below {n : Nat} {w w' : World} (h : TzAt w) (hb : Below n w w') (hn : 6 < n) : TzAt w' := h.kept (hb.block _ hn)

theorem seven6 {k : Int} (h : 0 ≤ k ∧ k ≤ 6) : k = 0 ∨ k = 1 ∨ k = 2 ∨ k = 3 ∨ k = 4 ∨ k = 5 ∨ k = 6 := by omega

theorem six6 {k : Int} (h : 1 ≤ k ∧ k ≤ 6) : k = 1 ∨ k = 2 ∨ k = 3 ∨ k = 4 ∨ k = 5 ∨ k = 6 := by omega

theorem okS_t {n s : Int} (hn : inB n 1 6 = true) (h0 : 0 ≤ s) (h1 : s ≤ 2 ^ (n.toNat + 1) - 1) : okS n s = true := by
  have h2 : (s.toNat : Int) < ((2 ^ (n.toNat + 1) : Nat) : Int) := by rw [Int.natCast_pow, Int.toNat_of_nonneg h0]; push_cast; omega
  unfold okS
  rw [hn, decide_eq_true h0, decide_eq_true (by omega : s.toNat < 2 ^ (n.toNat + 1))]
  rfl
theorem okS_f {n s : Int} (h : inB n 1 6 = false ∨ s < 0 ∨ 2 ^ (n.toNat + 1) - 1 < s) : okS n s = false := by
  unfold okS
  rcases h with h | h | h
  · rw [h]; rfl
  · rw [decide_eq_false (by omega : ¬ 0 ≤ s)]; simp
  · have h2 : ((2 ^ (n.toNat + 1) : Nat) : Int) ≤ s := by rw [Int.natCast_pow]; push_cast; omega
    rw [decide_eq_false (by omega : ¬ s.toNat < 2 ^ (n.toNat + 1))]; simp

set_option maxHeartbeats 1000000 in
theorem tz64_core (x k idx : Nat) (w : World) (hx0 : ((x : Int) == 0) = false)
    (key : IntKind.u64.wrap (bits BinOp.and IntKind.u64 (x : Int) (IntKind.u64.wrap (-(x : Int))) * 285870213051353865) / 288230376151711744 = (idx : Int))
    (hi : idx < 64) (hk : k < 64) (hcell : w.cell? ⟨6, idx, none⟩ = some (.int .u8 k)) :
    Calls Tryz.prog 213 #[.int .u64 x] w fun e w' => e = .returned (.int .i64 k) ∧ w = w' := by
  go_enter Tryz.func213, Tryz.ntmps213
  go_wp2_with (simp only [key])
  go_ret
  exact ⟨rfl, rfl⟩

theorem tz_any (x : Nat) (hx : x < 128) (h0 : x ≠ 0) (w : World) (hT : TzAt w) :
    Calls Tryz.prog 202 #[.int .u64 x] w fun e w' => e = .returned (.int .i64 (Lib.ctz 64 x : Nat)) ∧ w = w' := by
  obtain ⟨hlow, hk⟩ := Lib.lowest_bit 64 x h0 (by omega)
  obtain ⟨hi, htab⟩ := Lib.deBruijn64_at _ hk
  have hcell := hT _ hi
  rw [htab] at hcell
  have cc := tz64_core x _ _ w (by simp; omega) (tz64_key x _ (by omega) h0 hlow) hi hk hcell
  clear hcell htab hlow hT
  have hw : IntKind.u64.wrap (x : Int) = (x : Int) := by rw [IntKind.wrap_u64]; omega
  go_enter Tryz.func202, Tryz.ntmps202
  go_wp2_with (go_at_call 213; refine cc.mono ?_; rintro e w' ⟨rfl, rfl⟩)
  go_ret
  exact ⟨rfl, rfl⟩

end Go.Proofs.YtlnffpofbfigaaaGreatDoor

/-
  What the functions of chapter 9 answer, as propositions: the laws' walks take them as they come.
-/
namespace Go.Proofs.YtlnffpofbfigaaaGreatDoor
open Go.RowKit

def SaidC : Prop := ∀ (n : Int) (s : ByteArray) (w : World), Calls Tryz.prog 157 #[.int .i64 n, .string s] w (IntsPost (saidL n (bl s)) w)

theorem said_v (H : SaidC) (n : Int) (s : ByteArray) {xs : List Int} (h : saidL n (bl s) = xs) (w : World) : Calls Tryz.prog 157 #[.int .i64 n, .string s] w (IntsPost xs w) := by rw [← h]; exact H n s w

theorem ssaid_v (n : Int) (s : ByteArray) {xs : List Int} (h : saidL n (bl s) = xs) (w : World) : Calls Tryz.prog 72 #[.int .i64 n, .string s] w (IntsPost xs w) := by rw [← h]; exact ssaid_any n s w

end Go.Proofs.YtlnffpofbfigaaaGreatDoor

/-
  The draws of chapter 8: some chain and rows of at most six values.
-/
namespace Go.Proofs.YtlnffpofbfigaaaGreatDoor
open Go.RowKit

theorem Rd.rowI {w2 w3 : World} {r P base : Nat} {e : TypeId} {v : Value} {n : Nat} {xs : List Value} (hr : Rd w2 r P) (ho : w2.ownsRow base e 1 v n xs) (hb : r < base) (hg : w2.grownBy w3 v.ownBlock) : Rd w3 r P :=
  hr.kept fun k hk => hg.block k (Nat.lt_of_le_of_lt hk hr.lt) (fun e => by have := World.ownsRow.lt ho k e.symm; omega)
/-- Growth by a row that the call owns, beside the reader. -/
theorem grownBy_rowI {a b c : World} {base r : Nat} {v : Value} {n : Nat} {xs : List Value} {e : TypeId} (h : a.grownBy b (some r)) (ho : b.ownsRow base e 1 v n xs) (hb : a.heap.size ≤ base) (k : b.grownBy c v.ownBlock) : a.grownBy c (some r) :=
  ⟨k.os.trans h.os, k.tape.trans h.tape, k.output.trans h.output, Nat.le_trans h.size k.size, fun i hi hne => by
    refine (k.block i (Nat.lt_of_lt_of_le hi h.size) fun e => ?_).trans (h.block i hi hne)
    have := World.ownsRow.lt ho i e.symm
    omega⟩
theorem own_apartI {w w' : World} {base r : Nat} {e : TypeId} {v : Value} {n : Nat} {xs : List Value} (ho : w.ownsRow base e 1 v n xs) (hb : r < base) (hg : w.grownBy w' (some r)) : w'.ownsRow base e 1 v n xs :=
  World.ownsRow.kept ho hg (.inr fun e => by have := World.ownsRow.lt ho r e; omega)
theorem own_ints {wr : World} {base : Nat} {v : Value} {xs : List Int} (hm : xs.length ≤ maxLen) (h : wr.ownsRow base 3 1 v xs.length (xs.map (Value.int .i64))) : ∃ a cap, v = .slice a xs.length cap ∧ xs.length ≤ cap ∧ IntsAt wr a xs ∧ ∀ x, a = some x → base ≤ x.block := by
  obtain ⟨a, cap, rfl, _, hO⟩ := ownI_shape h
  have hA := hO.at hm
  rcases hO.2 with ⟨h1, h0⟩ | ⟨g, c, cur, h1, hb, hg, hlc, hcc, h2⟩
  · simp only [Value.slice.injEq] at h1
    obtain ⟨rfl, _, rfl⟩ := h1
    exact ⟨none, 0, rfl, by omega, hA, fun x e => by cases e⟩
  · simp only [Value.slice.injEq, true_and] at h1
    obtain ⟨rfl, rfl⟩ := h1
    exact ⟨_, _, rfl, hlc, hA, fun x e => by cases e; exact hb⟩

def RowPost (r P : Nat) (w : World) (e : Ending) (w' : World) : Prop :=
  ∃ (xs : List Int) (a : Option Addr) (cap : Nat), e = .returned (.slice a xs.length cap) ∧ 1 ≤ xs.length ∧ xs.length ≤ 5 ∧ xs.length ≤ cap ∧ (∀ x ∈ xs, 0 ≤ x ∧ x ≤ 1007) ∧ IntsAt w' a xs ∧ (∀ x, a = some x → r < x.block) ∧ Rd w' r (P + 11) ∧ w.grownBy w' (some r)

def RowsRel (r P : Nat) (w : World) (v i : Value) (wr : World) : Prop :=
  ∃ (xs : List Int) (m : Nat), 1 ≤ xs.length + m ∧ xs.length + m ≤ 5 ∧ i = .int .i64 m ∧ wr.ownsRow w.heap.size 3 1 v xs.length (xs.map (Value.int .i64)) ∧ (∀ x ∈ xs, 0 ≤ x ∧ x ≤ 1007) ∧ Rd wr r (P + 1 + 2 * xs.length) ∧ w.grownBy wr (some r)

end Go.Proofs.YtlnffpofbfigaaaGreatDoor

/-
  Copies of slices of integers: laws.toIntS; what a slice of integers that came in is.
-/
namespace Go.Proofs.YtlnffpofbfigaaaGreatDoor
open Go.RowKit

/-- A slice of integers that came in: what lies there. -/
theorem IsRow.ints {w : World} {a : Option Addr} {len cap : Nat} {zs : List Int} (h : IsRow .i64 w a len cap zs) : ∃ xs : List Int, xs.length = len ∧ IntsAt w a xs := by
  by_cases h0 : len = 0
  · subst h0
    exact ⟨[], rfl, by simp, .inl rfl⟩
  · rcases h with ⟨_, h, _⟩ | ⟨x, rfl, h1, h2, h3, h4, _⟩
    · exact absurd h h0
    · obtain ⟨b, off, spot⟩ := x
      have c0 := h4 0 (by omega)
      have hsp : spot = none := by simpa [Addr.add] using World.cell?_spot c0
      subst hsp
      have hl : (zs.take len).length = len := by rw [List.length_take]; omega
      refine ⟨zs.take len, hl, by omega, .inr ⟨b, off, rfl, by simpa [Addr.add] using World.block_lt_of_cell? w _ c0, fun i hi => ?_⟩⟩
      have := h4 i (by omega)
      rw [add_none] at this
      rw [this]
      rw [hl] at hi
      simp [List.getD_eq_getElem?_getD, hi]
def CpiRel (g : Nat) (xs : List Int) (w : World) (i : Value) (wr : World) : Prop :=
  ∃ (k : Nat) (vs : List Value), k ≤ xs.length ∧ i = .int .i64 k ∧ wr.ownsRow w.heap.size 3 1 (.slice (some ⟨g, 0, none⟩) xs.length xs.length) xs.length vs ∧ (∀ j, j < k → vs[j]? = some (.int .i64 (xs.getD j 0))) ∧ w.grownBy wr none
/-- What a copy leaves. -/
def CopyPost (xs : List Int) (w : World) (e : Ending) (w' : World) : Prop :=
  ∃ a cap, e = .returned (.slice a xs.length cap) ∧ IntsAt w' a xs ∧ w.grownBy w' none
theorem own_copied {g : Nat} {xs : List Int} {w wr : World} {vs : List Value} (hm : xs.length ≤ maxLen) (h : wr.ownsRow w.heap.size 3 1 (.slice (some ⟨g, 0, none⟩) xs.length xs.length) xs.length vs) (hx : ∀ j, j < xs.length → vs[j]? = some (.int .i64 (xs.getD j 0))) : IntsAt wr (some ⟨g, 0, none⟩) xs := by
  refine ⟨hm, ?_⟩
  by_cases h0 : xs.length = 0
  · exact .inl (List.length_eq_zero_iff.1 h0)
  · have c0 := World.ownsRow.cellAt h 0 (by omega)
    rw [hx 0 (by omega)] at c0
    refine .inr ⟨g, 0, rfl, World.block_lt_of_cell? wr _ c0, fun i hi => ?_⟩
    have hc := World.ownsRow.cellAt h i (by omega)
    rw [Nat.zero_add, hc, hx i hi]

end Go.Proofs.YtlnffpofbfigaaaGreatDoor

/-
  impl's RowSaid. No condition.
-/
namespace Go.Proofs.YtlnffpofbfigaaaGreatDoor
open Go.RowKit

theorem said_no (n : Int) (s : ByteArray) (w : World) (h : inB n 1 6 = false ∨ fOf (bl s) = none) :
    Calls Tryz.prog 157 #[.int .i64 n, .string s] w (IntsPost [] w) := by
  have cc := chain_no n s w h
  clear h
  go_enter Tryz.func157, Tryz.ntmps157
  go_wp2_with fail
  refine cc.mono ?_
  rintro e w1 ⟨v, hv, rfl, g1⟩
  clear cc
  rcases hv with rfl | ⟨T, p, rfl⟩
  all_goals
    go_wp2_with fail
    go_ret
    exact ⟨none, 0, rfl, OwnI.nil _ _, g1⟩

def NsRel (g : Nat) (xs : List Int) (w : World) (i : Value) (wr : World) : Prop :=
  ∃ (k : Nat) (vs : List Value), k ≤ xs.length ∧ i = .int .i64 k ∧ wr.ownsRow w.heap.size 3 1 (.slice (some ⟨g, 0, none⟩) xs.length xs.length) xs.length vs ∧ (∀ j, j < k → vs[j]? = some (.int .i64 (xs.getD j 0))) ∧ w.grownBy wr none
theorem vals_all {xs : List Int} {vs : List Value} (hl : vs.length = xs.length) (h : ∀ j, j < xs.length → vs[j]? = some (.int .i64 (xs.getD j 0))) : vs = xs.map (Value.int .i64) := by
  apply List.ext_getElem (by simp [hl])
  intro i h1 h2
  have := h i (by omega)
  rw [List.getElem?_eq_getElem h1] at this
  have e := Option.some.inj this
  rw [e]
  simp only [List.getElem_map]
  rw [List.getD_eq_getElem?_getD, List.getElem?_eq_getElem (by omega), Option.getD_some]

set_option maxRecDepth 100000 in
set_option maxHeartbeats 4000000 in
theorem said_yes (N : Nat) (hN : 1 ≤ N ∧ N ≤ 6) (s : ByteArray) (w : World) {t : Tr} (ho : fOf (bl s) = some t) :
    Calls Tryz.prog 157 #[.int .i64 N, .string s] w (IntsPost (saidTo N t (N + 1)) w) := by
  obtain ⟨i0, hi, hz0, hz1, hz2⟩ := info_parts infoInt
  have cc := chain_yes s w (inB_t (n := N) (by omega)) ho
  clear ho
  have cv : Hid (∀ (v : Nat), v ≤ N → ∀ (w : World), Calls Tryz.prog 160 #[.agg #[.int .i64 N, .int .i64 v, .int .i64 v, .int .i64 v], .iface (nodeT t) (nodeP t)] w fun e w' => e = .returned (.int .i64 (t.val N v v v)) ∧ w.grownBy w' none) := fun v hv w => vt_all (thrB_mk (vokB_t (by omega)) (vokB_t (by omega)) (vokB_t (by omega))) t w
  have hlen := saidTo_len N t (N + 1)
  have hat : Hid (∀ v, v ≤ N → (saidTo N t (N + 1)).getD v 0 = t.val N v v v) := fun v hv => saidTo_at N t (by omega)
  generalize saidTo N t (N + 1) = xs at *
  go_enter Tryz.func157, Tryz.ntmps157
  go_wp2_with fail
  refine cc.mono ?_
  rintro e w1 ⟨rfl, g1⟩
  clear cc
  go_wp2_with (at_make; refine wpList_make_full _ rfl _ _ 102 rfl w.heap.size 3 i0 (.int .i64 0) 1 Tryz.underlying102 hi hz0 hz1 .i64 .i64 _ _ (N + 1) rfl rfl rfl rfl ?b2 ?b3 g1.size ?_)
  case b2 => rw [hz2]; omega
  case b3 => unfold maxLen; omega
  intro w0 hown0 hgrow0
  have hG0 := Lib.hid (grownBy_trans g1 hgrow0)
  go_wp2_with fail
  go_loopw [23] (fun i wr => NsRel w1.heap.size xs w i wr) (fun i _ => N + 1 - (intOf i).toNat)
  case atStart => exact ⟨0, _, by omega, rfl, by rw [hlen]; exact hown0, fun j hj => absurd hj (by omega), hG0.out⟩
  case round =>
    obtain ⟨k, vs, hk, rfl, hown, hxs, hgr⟩ := hrel
    rw [hlen] at hk hown
    by_cases hlt : k ≤ N
    · have c2 := cv.out k hlt
      have hat2 := Lib.hid (hat.out k hlt)
      have hxl := hown.1
      generalize t.val N k k k = q at *
      have hkeep : Hid (∀ w2, (wr.alloc (.cells #[.int .i64 N, .int .i64 k, .int .i64 k, .int .i64 k] 164)).grownBy w2 none → w2.ownsRow w.heap.size 3 1 (.slice (some ⟨w1.heap.size, 0, none⟩) (N + 1) (N + 1)) (N + 1) vs ∧ w.grownBy w2 none) := fun w2 g =>
        ⟨World.ownsRow.kept hown (grownBy_trans (World.grownBy_alloc wr _ none) g) (by cases (Value.slice (some ⟨w1.heap.size, 0, none⟩) (N + 1) (N + 1)).ownBlock <;> simp), grownBy_trans hgr (grownBy_trans (World.grownBy_alloc wr _ none) g)⟩
      have hxs2 : Hid (∀ j, j < k + 1 → (vs.set k (.int .i64 q))[j]? = some (.int .i64 (xs.getD j 0))) := fun j hj => by
        by_cases e : j = k
        · subst e; rw [List.getElem?_set_self (by omega), hat2.out]
        · rw [List.getElem?_set_ne (by omega)]; exact hxs j (by omega)
      have HL := Lib.hid hlen
      clear hown hgr hxs hlen
      go_wp2_with (go_at_call 160; refine (c2 _).mono ?_; rintro e w2 ⟨rfl, g2⟩; have O2 := Lib.hid (hkeep.out _ g2); have hfr := World.ownsRow.frozenAt O2.out.1 k; have hce := World.ownsRow.cellAt O2.out.1 k (by omega); rw [List.getElem?_eq_getElem (by omega)] at hce; obtain ⟨u, hce⟩ : ∃ u, w2.cell? ⟨w1.heap.size, k, none⟩ = some u := ⟨_, hce⟩)
      have hst := Lib.hid (World.ownsRow.stored O2.out.1 k (.int .i64 q))
      have hg2 := Lib.hid (grownBy_row O2.out.2 O2.out.1 (Nat.le_refl _) hst.out.2)
      go_roundw
      case rel => exact ⟨k + 1, _, by have := HL.out; omega, by go_num, by rw [HL.out]; exact hst.out.1, hxs2.out, hg2.out⟩
      case measure => simp [intOf]; omega
    · obtain rfl : k = N + 1 := by omega
      have hl := hown.1
      have e := vals_all (xs := xs) (vs := vs) (by omega) (by rw [hlen]; exact hxs)
      subst e
      have HO : Hid (OwnI wr w.heap.size (some ⟨w1.heap.size, 0, none⟩) (N + 1) xs) := by
        unfold Hid OwnI
        rw [hlen]
        exact hown
      have HL := Lib.hid hlen
      clear hown hxs hlen
      go_wp2_with fail
      go_ret
      exact ⟨_, N + 1, by rw [HL.out]; rfl, HO.out, hgr⟩

theorem isaid_any : SaidC := fun n s w => by
  cases hi : inB n 1 6
  · rw [saidL_o hi]; exact said_no n s w (.inl hi)
  · cases ho : fOf (bl s) with
    | none => rw [saidL_n ho]; exact said_no n s w (.inr ho)
    | some t =>
      obtain ⟨N, rfl, hN⟩ := nat_of hi
      rw [saidL_t ho hi]
      exact said_yes N hN s w ho

end Go.Proofs.YtlnffpofbfigaaaGreatDoor
