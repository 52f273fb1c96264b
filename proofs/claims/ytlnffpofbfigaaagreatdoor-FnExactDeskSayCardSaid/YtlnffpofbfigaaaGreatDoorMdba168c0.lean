/-
  Joined out of the texts Gcd, Low, Text, VText, Ints, Row: what each holds is told at its head.
-/
import Derived.Test.YtlnffpofbfigaaaGreatDoorM2359aa93
import Derived.RowKit3
import Derived.Below
import Derived.Deep.QuietTactic
import Derived.BigQuiet
import Derived.IntWalk
import Derived.LoopTactic
import Derived.Laws.IdiomStrings
import Derived.OwnWalk
import Derived.Laws.OwnMore

/-
  Contracts of l1Common and of reduced: both find the greatest common divisor. For numbers from 0 on, up to 1000000 (the whole at least 1).
-/
namespace Go.Proofs.YtlnffpofbfigaaaGreatDoor
open Go.RowKit

theorem ret_int {k : IntKind} {a b : Int} (h : a = b) : Ending.returned (.int k a) = .returned (.int k b) := by rw [h]

theorem gcd_step (A B : Nat) : Nat.gcd B (A % B) = Nat.gcd A B := by rw [Nat.gcd_comm A B, Nat.gcd_rec B A, Nat.gcd_comm]

def ComRel (A B : Nat) (a b : Value) : Prop := ∃ x y : Nat, a = .int .i64 x ∧ b = .int .i64 y ∧ Nat.gcd x y = Nat.gcd A B ∧ x ≤ 1000000 ∧ y ≤ 1000000

theorem common_nat (A B : Nat) (hA : A ≤ 1000000) (hB : B ≤ 1000000) (w : World) :
    Calls Tryz.prog 143 #[.int .i64 A, .int .i64 B] w fun e w' => e = .returned (.int .i64 (Nat.gcd A B)) ∧ w = w' := by
  go_enter Tryz.func143, Tryz.ntmps143
  go_wp2
  go_loop [0, 1] (fun a b => ComRel A B a b) (fun _ b => (intOf b).toNat)
  case atStart => exact ⟨A, B, rfl, rfl, rfl, hA, hB⟩
  case round =>
    obtain ⟨x, y, rfl, rfl, hg, hx, hy⟩ := hrel
    have Hg := Lib.hid hg
    clear hg
    by_cases h0 : 0 < y
    · go_wp2
      go_round
      case rel => exact ⟨y, x % y, rfl, by simp, (gcd_step x y).trans Hg.out, hy, Nat.le_trans (Nat.mod_le _ _) hx⟩
      case measure =>
        have := Nat.mod_lt x h0
        simp [intOf]; omega
    · have hy0 : y = 0 := by omega
      have hgx : Nat.gcd A B = x := by rw [← Hg.out, hy0, Nat.gcd_zero_right]
      have Hx := Lib.hid hgx
      clear hgx hy0
      go_wp2
      go_ret
      exact ⟨ret_int (by rw [Hx.out]), rfl⟩

theorem common_any (a b : Int) (ha : 0 ≤ a ∧ a ≤ 1000000) (hb : 0 ≤ b ∧ b ≤ 1000000) (w : World) :
    Calls Tryz.prog 143 #[.int .i64 a, .int .i64 b] w fun e w' => e = .returned (.int .i64 (Nat.gcd a.toNat b.toNat)) ∧ w = w' := by
  obtain ⟨A, rfl⟩ := Int.eq_ofNat_of_zero_le ha.1
  obtain ⟨B, rfl⟩ := Int.eq_ofNat_of_zero_le hb.1
  exact common_nat A B (by omega) (by omega) w

def RedRel (p n : Nat) (w : World) (d r : Value) (wr : World) : Prop :=
  ∃ x y : Nat, r = .int .i64 x ∧ d = .int .i64 y ∧ Nat.gcd x y = Nat.gcd p n ∧ x ≤ 1000000 ∧ y ≤ 1000000 ∧ 1 ≤ y ∧ w.grownBy wr none

def RedPost (p n : Nat) (w : World) (e : Ending) (w' : World) : Prop :=
  e = .returned (.tuple #[.int .i64 ((p / Nat.gcd p n : Nat) : Int), .int .i64 ((n / Nat.gcd p n : Nat) : Int)]) ∧ w.grownBy w' none

theorem ret_two {a b c d : Int} (h : a = c) (k : b = d) : Ending.returned (.tuple #[.int .i64 a, .int .i64 b]) = .returned (.tuple #[.int .i64 c, .int .i64 d]) := by rw [h, k]

theorem reduced_nat (p n : Nat) (hp : p ≤ 1000000) (hn : n ≤ 1000000) (hn1 : 1 ≤ n) (w : World) :
    Calls Tryz.prog 211 #[.int .i64 p, .int .i64 n] w (RedPost p n w) := by
  go_enter Tryz.func211, Tryz.ntmps211
  go_wp2
  go_loopw [6, 7] (fun d r wr => RedRel p n w d r wr) (fun _ r _ => (intOf r).toNat)
  case atStart => exact ⟨p, n, rfl, rfl, rfl, hp, hn, hn1, ⟨rfl, rfl, rfl, Nat.le_refl _, fun _ _ _ => rfl⟩⟩
  case round =>
    obtain ⟨x, y, rfl, rfl, hg, hx, hy, hy1, hgr⟩ := hrel
    have Hg := Lib.hid hg
    clear hg
    by_cases h0 : x = 0
    · subst h0
      have hgx : Nat.gcd p n = y := by rw [← Hg.out, Nat.gcd_zero_left]
      have Hx := Lib.hid hgx
      clear hgx
      have q1 : 0 ≤ (p : Int) / (y : Int) := Int.ediv_nonneg (by omega) (by omega)
      have q2 : (p : Int) / (y : Int) ≤ (p : Int) := Int.ediv_le_self _ (by omega)
      have q3 : 0 ≤ (n : Int) / (y : Int) := Int.ediv_nonneg (by omega) (by omega)
      have q4 : (n : Int) / (y : Int) ≤ (n : Int) := Int.ediv_le_self _ (by omega)
      go_wp2
      go_quiet (fail)
      go_wp2
      go_ret2
      exact ⟨ret_two (by rw [Hx.out]; simp) (by rw [Hx.out]; simp), ⟨hgr.os, hgr.tape, hgr.output, hgr.size, hgr.block⟩⟩
    · have hb : ((x : Int) != 0) = true := by simp; omega
      have hx1 : 1 ≤ x := by omega
      go_wp2
      go_quiet (fail)
      go_wp2
      go_roundw
      case rel => exact ⟨y % x, x, by simp, rfl, by rw [Nat.gcd_comm, gcd_step, Nat.gcd_comm]; exact Hg.out, Nat.le_trans (Nat.mod_le _ _) hy, hx, hx1, ⟨hgr.os, hgr.tape, hgr.output, hgr.size, hgr.block⟩⟩
      case measure =>
        have := Nat.mod_lt y hx1
        simp [intOf]; omega

def fracP (n v : Int) : Int := ((v.toNat / Nat.gcd v.toNat n.toNat : Nat) : Int)
def fracW (n v : Int) : Int := ((n.toNat / Nat.gcd v.toNat n.toNat : Nat) : Int)

def FracPost (n v : Int) (w : World) (e : Ending) (w' : World) : Prop :=
  e = .returned (.agg #[.int .i64 (fracP n v), .int .i64 (fracW n v)]) ∧ w.grownBy w' none

theorem fraction_any (n v : Int) (hn : 1 ≤ n ∧ n ≤ 1000000) (hv : 0 ≤ v ∧ v ≤ 1000000) (w : World) :
    Calls Tryz.prog 194 #[.int .i64 n, .int .i64 v] w (FracPost n v w) := by
  unfold FracPost fracP fracW
  obtain ⟨N, rfl⟩ := Int.eq_ofNat_of_zero_le (show 0 ≤ n by omega)
  obtain ⟨V, rfl⟩ := Int.eq_ofNat_of_zero_le hv.1
  simp only [Int.toNat_natCast]
  go_enter Tryz.func194, Tryz.ntmps194
  go_wp2_with fail
  refine (reduced_nat V N (by omega) (by omega) (by omega) _).mono ?_
  rintro e w1 ⟨rfl, hg⟩
  have hsz := hg.size
  simp at hsz
  have hb := hg.block w.heap.size (by simp) (by simp)
  rw [heap_alloc_new] at hb
  obtain ⟨c0, c1, f0, f1⟩ := cells_new hb
  clear hb
  go_wp2_with fail
  refine bodyPost_ret (v := .agg #[.int .i64 ((V / Nat.gcd V N : Nat) : Int), .int .i64 ((N / Nat.gcd V N : Nat) : Int)]) (by simp [results, Tryz.results194, go_sem, c0, c1]) rfl ⟨rfl, ?_⟩
  exact grownBy_own (grownBy_trans (World.grownBy_alloc _ _ _) hg) (grownBy_trans (grownBy_set _ _ _ _) (grownBy_set _ _ _ _))

end Go.Proofs.YtlnffpofbfigaaaGreatDoor

/-
  Contracts of LowestOf, both. No condition.
-/
namespace Go.Proofs.YtlnffpofbfigaaaGreatDoor
open Go.RowKit

def lowW (n v : Int) : Int := if vokB n v then fracW n v else -1
def lowP (n v : Int) : Int := if vokB n v then fracP n v else -1

def LowPost (n v : Int) (w : World) (e : Ending) (w' : World) : Prop :=
  e = .returned (.tuple #[.int .i64 (lowW n v), .int .i64 (lowP n v), .bool (vokB n v)]) ∧ w.grownBy w' none

theorem ret_low {n v a b : Int} {c : Bool} (h1 : a = lowW n v) (h2 : b = lowP n v) (h3 : c = vokB n v) :
    Ending.returned (.tuple #[.int .i64 a, .int .i64 b, .bool c]) = .returned (.tuple #[.int .i64 (lowW n v), .int .i64 (lowP n v), .bool (vokB n v)]) := by rw [h1, h2, h3]

theorem low_any (n v : Int) (w : World) :
    Calls Tryz.prog 161 #[.int .i64 n, .int .i64 v] w (LowPost n v w) := by
  cases e1 : vokB n v
  · have r1 : Hid (-1 = lowW n v) := by unfold Hid lowW; simp [e1]
    have r2 : Hid (-1 = lowP n v) := by unfold Hid lowP; simp [e1]
    have r3 : Hid (vokB n v = false) := e1
    go_enter Tryz.func161, Tryz.ntmps161
    go_wp2_with (go_at_call 58; refine (vok_any _ _ _).mono ?_; rintro e w' ⟨rfl, rfl⟩)
    go_ret3
    exact ⟨ret_low r1.out r2.out r3.out.symm, grownBy_refl _ _⟩
  · have r1 : Hid (fracW n v = lowW n v) := by unfold Hid lowW; simp [e1]
    have r2 : Hid (fracP n v = lowP n v) := by unfold Hid lowP; simp [e1]
    have r3 : Hid (vokB n v = true) := e1
    have k := vokB_of e1
    go_enter Tryz.func161, Tryz.ntmps161
    go_wp2_with (first | (go_at_call 58; refine (vok_any _ _ _).mono ?_; rintro e w' ⟨rfl, rfl⟩) | (go_at_call 194; refine (fraction_any n v (by omega) (by omega) _).mono ?_; rintro e w1 ⟨rfl, hg⟩))
    go_quiet (fail)
    go_wp2
    go_ret3
    exact ⟨ret_low r1.out r2.out r3.out.symm, grownBy_drewN (grownBy_trans hg (World.grownBy_alloc _ _ _)) _⟩

theorem slow_any (n v : Int) (w : World) :
    Calls Tryz.prog 110 #[.int .i64 n, .int .i64 v] w (LowPost n v w) := by
  cases e1 : vokB n v
  · have r1 : Hid (-1 = lowW n v) := by unfold Hid lowW; simp [e1]
    have r2 : Hid (-1 = lowP n v) := by unfold Hid lowP; simp [e1]
    have r3 : Hid (vokB n v = false) := e1
    go_enter Tryz.func110, Tryz.ntmps110
    go_wp2_with (go_at_call 116; refine (svok_any _ _ _).mono ?_; rintro e w' ⟨rfl, rfl⟩)
    go_ret3
    exact ⟨ret_low r1.out r2.out r3.out.symm, grownBy_refl _ _⟩
  · have k := vokB_of e1
    have r1 : Hid (fracW n v = lowW n v) := by unfold Hid lowW; simp [e1]
    have r2 : Hid (fracP n v = lowP n v) := by unfold Hid lowP; simp [e1]
    have r3 : Hid (vokB n v = true) := e1
    obtain ⟨N, rfl⟩ := Int.eq_ofNat_of_zero_le (show 0 ≤ n by omega)
    obtain ⟨V, rfl⟩ := Int.eq_ofNat_of_zero_le (show 0 ≤ v by omega)
    have g1 : 1 ≤ Nat.gcd V N := Nat.gcd_pos_of_pos_right _ (by omega)
    have g2 : Nat.gcd V N ≤ N := Nat.gcd_le_right _ (by omega)
    obtain ⟨g, hg⟩ : ∃ g, g = Nat.gcd V N := ⟨_, rfl⟩
    have Hg := Lib.hid hg
    have s1 : Hid ((N : Int) / (g : Int) = fracW N V) := by rw [hg]; unfold Hid fracW; simp
    have s2 : Hid ((V : Int) / (g : Int) = fracP N V) := by rw [hg]; unfold Hid fracP; simp
    rw [← hg] at g1 g2
    clear hg
    have q1 : 0 ≤ (V : Int) / (g : Int) := Int.ediv_nonneg (by omega) (by omega)
    have q2 : (V : Int) / (g : Int) ≤ (V : Int) := Int.ediv_le_self _ (by omega)
    have q3 : 0 ≤ (N : Int) / (g : Int) := Int.ediv_nonneg (by omega) (by omega)
    have q4 : (N : Int) / (g : Int) ≤ (N : Int) := Int.ediv_le_self _ (by omega)
    go_enter Tryz.func110, Tryz.ntmps110
    go_wp2_with (first | (go_at_call 116; refine (svok_any _ _ _).mono ?_; rintro e w' ⟨rfl, rfl⟩) | (go_at_call 143; refine (common_any V N (by omega) (by omega) _).mono ?_; rintro e w1 ⟨rfl, rfl⟩; simp only [Int.toNat_natCast]; rw [← Hg.out]))
    go_quiet (fail)
    go_wp2
    go_ret3
    exact ⟨ret_low (s1.out.trans r1.out) (s2.out.trans r2.out) r3.out.symm, grownBy_drewN (grownBy_refl _ _) _⟩

end Go.Proofs.YtlnffpofbfigaaaGreatDoor

/-
  Contracts of strconv.Itoa and l1Number at the numbers 0 to 6, and of ValueText, both. No other condition.
-/
namespace Go.Proofs.YtlnffpofbfigaaaGreatDoor
open Go.RowKit

def digS (k : Int) : ByteArray := ⟨#[UInt8.ofNat (48 + k.toNat)]⟩

theorem ret_str {a b : ByteArray} (h : a = b) : Ending.returned (.string a) = .returned (.string b) := by rw [h]

theorem seven {k : Int} (h : 0 ≤ k ∧ k ≤ 6) : k = 0 ∨ k = 1 ∨ k = 2 ∨ k = 3 ∨ k = 4 ∨ k = 5 ∨ k = 6 := by omega

theorem small_any (k : Int) (h : 0 ≤ k ∧ k ≤ 6) (w : World) :
    Calls Tryz.prog 166 #[.int .i64 k] w fun e w' => e = .returned (.string (digS k)) ∧ w = w' := by
  rcases seven h with rfl | rfl | rfl | rfl | rfl | rfl | rfl
  all_goals
    clear h
    go_enter Tryz.func166, Tryz.ntmps166
    go_wp2
    go_ret
    exact ⟨ret_str (by decide), rfl⟩

theorem itoa_any (k : Int) (h : 0 ≤ k ∧ k ≤ 6) (w : World) :
    Calls Tryz.prog 54 #[.int .i64 k] w fun e w' => e = .returned (.string (digS k)) ∧ w = w' := by
  go_enter Tryz.func54, Tryz.ntmps54
  go_wp2_with (first | (go_at_call 166; refine (small_any k h _).mono ?_; rintro e w' ⟨rfl, rfl⟩) | go_in)
  go_ret
  exact ⟨rfl, rfl⟩

def StrPost (s : ByteArray) (w : World) (e : Ending) (w' : World) : Prop := e = .returned (.string s) ∧ w.grownBy w' none

theorem one_byte (w : World) (c : UInt8) (n : Int) (hn : n = (c.toNat : Int)) :
    (convert 22 9 (.slice (some ⟨w.heap.size, 0, none⟩) 1 1)).run Tryz.prog (w.alloc (.cells #[.int .u8 n] 5)) = .ok (.string ⟨#[c]⟩) (w.alloc (.cells #[.int .u8 n] 5)) := by
  refine run_convert_bytes_back (P := Tryz.prog) _ 22 9 5 ⟨w.heap.size, 0, none⟩ 1 [c] Tryz.underlying22 Tryz.underlying5 Tryz.underlying9 (fun j hj => ?_)
  obtain rfl : j = 0 := by simpa using hj
  rw [add_none, World.cell?_alloc_mark, hn]
  rfl

theorem number_any (k : Int) (h : 0 ≤ k ∧ k ≤ 6) (w : World) :
    Calls Tryz.prog 62 #[.int .i64 k] w (StrPost (digS k) w) := by
  rcases seven h with rfl | rfl | rfl | rfl | rfl | rfl | rfl
  all_goals
    clear h
    have h48 := one_byte w 48 48 rfl
    have h49 := one_byte w 49 49 rfl
    have h50 := one_byte w 50 50 rfl
    have h51 := one_byte w 51 51 rfl
    have h52 := one_byte w 52 52 rfl
    have h53 := one_byte w 53 53 rfl
    have h54 := one_byte w 54 54 rfl
    go_enter Tryz.func62, Tryz.ntmps62
    go_wp2_with fail
    go_ret
    exact ⟨ret_str (by decide), World.grownBy_alloc _ _ _⟩

end Go.Proofs.YtlnffpofbfigaaaGreatDoor

/-
  Contracts of ValueText, both. No condition.
-/
namespace Go.Proofs.YtlnffpofbfigaaaGreatDoor
open Go.RowKit

def vtextOf (p q : Int) : ByteArray := if q = 1 then digS p else digS p ++ ⟨#[47]⟩ ++ digS q
def vtext (n v : Int) : ByteArray := if vokB n v then vtextOf (lowP n v) (lowW n v) else ⟨#[]⟩

theorem lowSmall {n v : Int} (h : vokB n v = true) : 0 ≤ lowP n v ∧ lowP n v ≤ 6 ∧ 0 ≤ lowW n v ∧ lowW n v ≤ 6 := by
  have k := vokB_of h
  unfold lowP lowW fracP fracW
  rw [h]
  have a := Nat.div_le_self v.toNat (Nat.gcd v.toNat n.toNat)
  have b := Nat.div_le_self n.toNat (Nat.gcd v.toNat n.toNat)
  generalize v.toNat / Nat.gcd v.toNat n.toNat = x at *
  generalize n.toNat / Nat.gcd v.toNat n.toNat = y at *
  simp only [if_true]
  omega

theorem text_any (n v : Int) (w : World) :
    Calls Tryz.prog 133 #[.int .i64 n, .int .i64 v] w (StrPost (vtext n v) w) := by
  cases e1 : vokB n v
  · have ht : Hid (⟨#[]⟩ = vtext n v) := by unfold Hid vtext; simp [e1]
    go_enter Tryz.func133, Tryz.ntmps133
    go_wp2_with (go_at_call 161; refine (low_any _ _ _).mono ?_; rintro e w1 ⟨rfl, hg1⟩)
    go_ret
    exact ⟨ret_str ht.out, hg1⟩
  · obtain ⟨p0, p1, q0, q1⟩ := lowSmall e1
    have ht : Hid (vtextOf (lowP n v) (lowW n v) = vtext n v) := by unfold Hid vtext; simp [e1]
    have hlow := low_any n v
    unfold LowPost at hlow
    generalize lowP n v = p at *
    generalize lowW n v = q at *
    have Hlow := Lib.hid hlow
    clear hlow
    by_cases hq : q = 1
    · subst hq
      have hv : Hid (vtextOf p 1 = digS p) := by unfold Hid vtextOf; simp
      go_enter Tryz.func133, Tryz.ntmps133
      go_wp2_with (first | (go_at_call 161; refine (Hlow.out _).mono ?_; rintro e w1 ⟨rfl, hg1⟩) | (go_at_call 54; refine (itoa_any p ⟨p0, p1⟩ _).mono ?_; rintro e w2 ⟨rfl, rfl⟩))
      go_ret
      exact ⟨ret_str (hv.out.symm.trans ht.out), hg1⟩
    · have hb : (q == 1) = false := by simpa using hq
      have hv : Hid (vtextOf p q = digS p ++ ⟨#[47]⟩ ++ digS q) := by unfold Hid vtextOf; rw [if_neg hq]
      go_enter Tryz.func133, Tryz.ntmps133
      go_wp2_with (go_at_call 161; refine (Hlow.out _).mono ?_; rintro e w1 ⟨rfl, hg1⟩)
      refine (itoa_any p ⟨p0, p1⟩ _).mono ?_
      rintro e w2 ⟨rfl, rfl⟩
      go_wp2_with fail
      refine (itoa_any q ⟨q0, q1⟩ _).mono ?_
      rintro e w2 ⟨rfl, rfl⟩
      go_wp2_with fail
      go_ret
      exact ⟨ret_str (hv.out.symm.trans ht.out), hg1⟩

theorem stext_any (n v : Int) (w : World) :
    Calls Tryz.prog 65 #[.int .i64 n, .int .i64 v] w (StrPost (vtext n v) w) := by
  cases e1 : vokB n v
  · have ht : Hid (⟨#[]⟩ = vtext n v) := by unfold Hid vtext; simp [e1]
    go_enter Tryz.func65, Tryz.ntmps65
    go_wp2_with (go_at_call 110; refine (slow_any _ _ _).mono ?_; rintro e w1 ⟨rfl, hg1⟩)
    go_ret
    exact ⟨ret_str ht.out, hg1⟩
  · obtain ⟨p0, p1, q0, q1⟩ := lowSmall e1
    have ht : Hid (vtextOf (lowP n v) (lowW n v) = vtext n v) := by unfold Hid vtext; simp [e1]
    have hlow := slow_any n v
    unfold LowPost at hlow
    generalize lowP n v = p at *
    generalize lowW n v = q at *
    have Hlow := Lib.hid hlow
    clear hlow
    by_cases hq : q = 1
    · subst hq
      have hv : Hid (vtextOf p 1 = digS p) := by unfold Hid vtextOf; simp
      go_enter Tryz.func65, Tryz.ntmps65
      go_wp2_with (first | (go_at_call 110; refine (Hlow.out _).mono ?_; rintro e w1 ⟨rfl, hg1⟩) | (go_at_call 62; refine (number_any p ⟨p0, p1⟩ _).mono ?_; rintro e w2 ⟨rfl, hg2⟩))
      go_ret
      exact ⟨ret_str (hv.out.symm.trans ht.out), grownBy_trans hg1 hg2⟩
    · have hb : (q == 1) = false := by simpa using hq
      have hv : Hid (vtextOf p q = digS p ++ ⟨#[47]⟩ ++ digS q) := by unfold Hid vtextOf; rw [if_neg hq]
      go_enter Tryz.func65, Tryz.ntmps65
      go_wp2_with (go_at_call 110; refine (Hlow.out _).mono ?_; rintro e w1 ⟨rfl, hg1⟩)
      refine (number_any p ⟨p0, p1⟩ _).mono ?_
      rintro e w2 ⟨rfl, hg2⟩
      go_wp2_with fail
      refine (number_any q ⟨q0, q1⟩ _).mono ?_
      rintro e w3 ⟨rfl, hg3⟩
      go_wp2_with fail
      go_ret
      exact ⟨ret_str (hv.out.symm.trans ht.out), grownBy_trans (grownBy_trans hg1 hg2) hg3⟩

end Go.Proofs.YtlnffpofbfigaaaGreatDoor

/-
  Slices of integers that a call made or was handed: what is read of them (sameInts, eqIntS, ascend, heldIntS), what is written into one that the law owns (markIntS).
-/
namespace Go.Proofs.YtlnffpofbfigaaaGreatDoor
open Go.RowKit

def IntsAt (w : World) (a : Option Addr) (zs : List Int) : Prop :=
  zs.length ≤ maxLen ∧ (zs = [] ∨ ∃ b off, a = some ⟨b, off, none⟩ ∧ b < w.heap.size ∧ ∀ i, i < zs.length → w.cell? ⟨b, off + i, none⟩ = some (.int .i64 (zs.getD i 0)))

theorem IntsAt.grown {w w' : World} {a : Option Addr} {zs : List Int} (h : IntsAt w a zs) (hg : w.grownBy w' none) : IntsAt w' a zs := by
  refine ⟨h.1, ?_⟩
  rcases h.2 with h | ⟨b, off, ha, hb, hc⟩
  · exact .inl h
  · exact .inr ⟨b, off, ha, Nat.lt_of_lt_of_le hb hg.size, fun i hi => (World.cell?_of_block (w := w) (a := ⟨b, off + i, none⟩) (hg.block b hb (by simp))).trans (hc i hi)⟩

/-- Behind a call that made memory, a row of an older block reads as before. -/
theorem IntsAt.kept {w w' : World} {a : Option Addr} {zs : List Int} {row : Option Nat} (h : IntsAt w a zs) (hg : w.grownBy w' row) (hne : ∀ x, a = some x → some x.block ≠ row) : IntsAt w' a zs := by
  refine ⟨h.1, ?_⟩
  rcases h.2 with h | ⟨b, off, ha, hb, hc⟩
  · exact .inl h
  · exact .inr ⟨b, off, ha, Nat.lt_of_lt_of_le hb hg.size, fun i hi => (World.cell?_of_block (w := w) (a := ⟨b, off + i, none⟩) (hg.block b hb (hne _ ha))).trans (hc i hi)⟩

/-- A row of integers that the call owns: its block lies at base or above. -/
def OwnI (w : World) (base : Nat) (a : Option Addr) (cap : Nat) (zs : List Int) : Prop :=
  w.ownsRow base 3 1 (.slice a zs.length cap) zs.length (zs.map (Value.int .i64))

theorem ownI_shape {w : World} {base n : Nat} {v : Value} {zs : List Int} (h : w.ownsRow base 3 1 v n (zs.map (Value.int .i64))) : ∃ a cap, v = .slice a zs.length cap ∧ n = zs.length ∧ OwnI w base a cap zs := by
  have hl := h.1
  simp at hl
  subst hl
  rcases h.2 with ⟨rfl, h0⟩ | ⟨g, cap, cur, rfl, h1⟩
  · exact ⟨none, 0, by rw [h0], rfl, by unfold OwnI; rw [h0]; rw [h0] at h; exact h⟩
  · exact ⟨some ⟨g, 0, none⟩, cap, rfl, rfl, h⟩

theorem OwnI.at {w : World} {base : Nat} {a : Option Addr} {cap : Nat} {zs : List Int} (h : OwnI w base a cap zs) (hm : zs.length ≤ maxLen) : IntsAt w a zs := by
  refine ⟨hm, ?_⟩
  rcases h.2 with ⟨_, h0⟩ | ⟨g, c, cur, he, hb, hg, h1⟩
  · exact .inl (List.length_eq_zero_iff.1 h0)
  · simp only [Value.slice.injEq, true_and] at he
    obtain ⟨rfl, rfl⟩ := he
    refine .inr ⟨g, 0, rfl, (Array.getElem?_eq_some_iff.1 hg).1, fun i hi => ?_⟩
    have hc := World.ownsRow.cellAt h i (by omega)
    rw [Nat.zero_add, hc]
    simp [hi]

theorem OwnI.kept {w w' : World} {base : Nat} {a : Option Addr} {cap : Nat} {zs : List Int} (h : OwnI w base a cap zs) (hg : w.grownBy w' none) : OwnI w' base a cap zs :=
  World.ownsRow.kept h hg (by cases (Value.slice a zs.length cap).ownBlock <;> simp)

theorem OwnI.nil (w : World) (base : Nat) : OwnI w base none 0 [] := World.ownsRow_nil _ _ _ _

/-- Growth by a row that the call owns. -/
theorem grownBy_row {a b c : World} {base : Nat} {v : Value} {n : Nat} {xs : List Value} {e : TypeId} (h : a.grownBy b none) (ho : b.ownsRow base e 1 v n xs) (hb : a.heap.size ≤ base) (k : b.grownBy c v.ownBlock) : a.grownBy c none :=
  ⟨k.os.trans h.os, k.tape.trans h.tape, k.output.trans h.output, Nat.le_trans h.size k.size, fun i hi _ => by
    refine (k.block i (Nat.lt_of_lt_of_le hi h.size) fun e => ?_).trans (h.block i hi (by simp))
    have := World.ownsRow.lt ho i e.symm
    omega⟩

/-- What a function that answers with a new slice of integers leaves. -/
def IntsPost (zs : List Int) (w : World) (e : Ending) (w' : World) : Prop :=
  ∃ a cap, e = .returned (.slice a zs.length cap) ∧ OwnI w' w.heap.size a cap zs ∧ w.grownBy w' none

/-! Two rows, the same or not. -/
/-! Rows in ascending order. -/
/-! Marks in a row that the law owns. -/
end Go.Proofs.YtlnffpofbfigaaaGreatDoor

/-
  A row of integers that a loop appends to: the call's own slice.
-/
namespace Go.Proofs.YtlnffpofbfigaaaGreatDoor
open Go.RowKit

theorem infoInt : (Tryz.prog.info? 3).map (fun i => (i.zero, i.size, i.bytes)) = some (some (.int .i64 0), 1, 8) := by kernel_rfl

/-- The row so far, by the call's own slice. -/
def RowRel (zs : List Int) (base : Nat) (w : World) (v : Value) (wr : World) : Prop := ∃ a cap, v = .slice a zs.length cap ∧ OwnI wr base a cap zs ∧ w.grownBy wr none

theorem row_more {w wr w1 : World} {v v' : Value} {zs : List Int} {j : Int} (hn : wr.ownsRow w.heap.size 3 1 v zs.length (zs.map (Value.int .i64))) (hg : w.grownBy wr none)
    (ho : w1.ownsRow w.heap.size 3 1 v' (zs.length + 1) (zs.map (Value.int .i64) ++ [.int .i64 j])) (hgr : wr.grownBy w1 v.ownBlock) : RowRel (zs ++ [j]) w.heap.size w v' w1 := by
  have e : zs.map (Value.int .i64) ++ [Value.int .i64 j] = (zs ++ [j]).map (Value.int .i64) := by simp
  rw [e] at ho
  obtain ⟨a, cap, rfl, _, hO⟩ := ownI_shape ho
  exact ⟨a, cap, rfl, hO, grownBy_row hg hn (Nat.le_refl _) hgr⟩

theorem grow_box {wr w1 : World} {o : Obj} {v : Value} (h : (wr.alloc o).grownBy w1 v.ownBlock) : wr.grownBy w1 v.ownBlock :=
  grownBy_trans (World.grownBy_alloc wr o _) h

theorem OwnI.made (w : World) : OwnI (w.alloc (.cells #[] 3)) w.heap.size (some ⟨w.heap.size, 0, none⟩) 0 [] :=
  World.ownsRow_lit w #[] 0 (Nat.le_refl _) (by unfold maxLen; omega) rfl

end Go.Proofs.YtlnffpofbfigaaaGreatDoor
