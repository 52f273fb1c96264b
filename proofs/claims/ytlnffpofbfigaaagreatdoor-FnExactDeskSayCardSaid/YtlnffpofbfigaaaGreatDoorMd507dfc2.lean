/-
  Joined out of the texts Draw, Draw2: what each holds is told at its head.
-/
import Derived.Test.YtlnffpofbfigaaaGreatDoorM2359aa93
import Derived.RowKit3
import Derived.Below
import Derived.Deep.QuietTactic
import Derived.BigQuiet
import Derived.IntWalk
import Derived.Deep.RegionHeld
import Derived.Laws.BitsAllLaws

/-
  Contracts of the reader of a code (l20Open, pick, odd, l20Steps, l20Value): what they draw lies in its range, and they write the reader's own block alone. The code is of any length; the reader has been asked at most P times.
-/
namespace Go.Proofs.YtlnffpofbfigaaaGreatDoor
open Go.RowKit

/-- Block r is a reader that has been asked at most P times; its code is nil, empty, or lies in a block below r. -/
def Rd (w : World) (r P : Nat) : Prop :=
  ∃ (a : Option Addr) (len cap p : Nat),
    w.cell? ⟨r, 0, none⟩ = some (.slice a len cap) ∧ w.cell? ⟨r, 1, none⟩ = some (.int .i64 p) ∧ w.frozen? ⟨r, 1, none⟩ = false ∧ p ≤ P ∧ len ≤ 2000 ∧
    (len = 0 ∨ ∃ b off, a = some ⟨b, off, none⟩ ∧ b < r ∧ ∀ i, i < len → ∃ u : Nat, u ≤ 255 ∧ w.cell? ⟨b, off + i, none⟩ = some (.int .u8 u))

/-- The reader is kept by whatever leaves its block and the old ones alone. -/
theorem Rd.kept {w w' : World} {r P : Nat} (h : Rd w r P) (hb : ∀ k, k ≤ r → w'.heap[k]? = w.heap[k]?) : Rd w' r P := by
  obtain ⟨a, len, cap, p, c0, c1, f1, hp, hl, hz⟩ := h
  have hr := hb r (Nat.le_refl _)
  refine ⟨a, len, cap, p, (World.cell?_of_block (w := w) hr).trans c0, (World.cell?_of_block (w := w) hr).trans c1, (World.frozen?_of_block (w := w) hr).trans f1, hp, hl, ?_⟩
  rcases hz with hz | ⟨b, off, ha, hbr, hc⟩
  · exact .inl hz
  · refine .inr ⟨b, off, ha, hbr, fun i hi => ?_⟩
    obtain ⟨u, hu, hcu⟩ := hc i hi
    exact ⟨u, hu, (World.cell?_of_block (w := w) (hb b (by omega))).trans hcu⟩

theorem Rd.mono {w : World} {r P P' : Nat} (h : Rd w r P) (hP : P ≤ P') : Rd w r P' := by
  obtain ⟨a, len, cap, p, c0, c1, f1, hp, rest⟩ := h
  exact ⟨a, len, cap, p, c0, c1, f1, by omega, rest⟩

theorem Rd.lt {w : World} {r P : Nat} (h : Rd w r P) : r < w.heap.size := by
  obtain ⟨a, len, cap, p, c0, _⟩ := h
  exact World.block_lt_of_cell? w _ c0

/-- Behind a question. -/
theorem Rd.next {w : World} {r P : Nat} {a : Option Addr} {len cap p : Nat} (c0 : w.cell? ⟨r, 0, none⟩ = some (.slice a len cap)) (c1 : w.cell? ⟨r, 1, none⟩ = some (.int .i64 p)) (f1 : w.frozen? ⟨r, 1, none⟩ = false) (hp : p ≤ P) (hl : len ≤ 2000)
    (hz : len = 0 ∨ ∃ b off, a = some ⟨b, off, none⟩ ∧ b < r ∧ ∀ i, i < len → ∃ u : Nat, u ≤ 255 ∧ w.cell? ⟨b, off + i, none⟩ = some (.int .u8 u)) :
    Rd (w.setCell ⟨r, 1, none⟩ (.int .i64 (p + 1))) r (P + 1) := by
  refine ⟨a, len, cap, p + 1, ?_, ?_, ?_, by omega, hl, ?_⟩
  · rw [World.cell?_setCell_other _ _ _ _ (by simp)]; exact c0
  · rw [World.cell?_setCell_same _ _ _ c1]; simp
  · rw [World.frozen?_setCell]; exact f1
  · rcases hz with hz | ⟨b, off, ha, hbr, hc⟩
    · exact .inl hz
    · refine .inr ⟨b, off, ha, hbr, fun i hi => ?_⟩
      obtain ⟨u, hu, hcu⟩ := hc i hi
      exact ⟨u, hu, by rw [World.cell?_setCell_far _ _ _ _ (show r ≠ b by omega)]; exact hcu⟩

def PickPost (n : Int) (r P : Nat) (w : World) (e : Ending) (w' : World) : Prop :=
  ∃ k : Int, e = .returned (.int .i64 k) ∧ 0 ≤ k ∧ (k < n ∨ k = 0) ∧ Rd w' r (P + 1) ∧ w.grownBy w' (some r)

theorem xor_pos (a b : Int) (h1 : 0 ≤ a ∧ a ≤ 1000000000) (h2 : 0 ≤ b ∧ b ≤ 1000000000) : 0 ≤ bits .xor .i64 a b := by
  obtain ⟨A, rfl⟩ := Int.eq_ofNat_of_zero_le h1.1
  obtain ⟨B, rfl⟩ := Int.eq_ofNat_of_zero_le h2.1
  have hx : A ^^^ B < 2 ^ 31 := Nat.xor_lt_two_pow (by omega) (by omega)
  show 0 ≤ IntKind.i64.wrap ((BitVec.ofInt 64 (A : Int) ^^^ BitVec.ofInt 64 (B : Int)).toNat : Int)
  rw [BitVec.toNat_xor, ofInt_u64 A (by omega), ofInt_u64 B (by omega)]
  simp [IntKind.wrap, IntKind.bits, IntKind.signed]
  omega

theorem rem_ok {y n : Int} (_hy : 0 ≤ y) (hn : 1 ≤ n) : 0 ≤ y % n ∧ (y % n < n ∨ y % n = 0) := ⟨Int.emod_nonneg _ (by omega), .inl (Int.emod_lt_of_pos _ (by omega))⟩
theorem trem_ok {y n : Int} (hy : 0 ≤ y) (hn : 1 ≤ n) : 0 ≤ y.tmod n ∧ (y.tmod n < n ∨ y.tmod n = 0) := by
  rw [Int.tmod_eq_emod_of_nonneg hy]; exact rem_ok hy hn

theorem pick_low (n : Int) (w : World) (r P : Nat) (h : Rd w r P) (hP : P ≤ 1000000) (hn : n < 1) :
    Calls Tryz.prog 41 #[.pointer (some ⟨r, 0, none⟩), .int .i64 n] w (PickPost n r P w) := by
  obtain ⟨a, len, cap, p, c0, c1, f1, hp, hl, hz⟩ := h
  have hnx := Rd.next c0 c1 f1 hp hl hz
  go_enter Tryz.func41, Tryz.ntmps41
  go_wp2
  go_ret
  exact ⟨0, rfl, by omega, .inr rfl, hnx, grownBy_set _ _ _ _⟩

theorem pick_none (n : Int) (w : World) (r P : Nat) (a : Option Addr) (cap p : Nat) (c0 : w.cell? ⟨r, 0, none⟩ = some (.slice a 0 cap)) (c1 : w.cell? ⟨r, 1, none⟩ = some (.int .i64 p)) (f1 : w.frozen? ⟨r, 1, none⟩ = false) (hp : p ≤ P) (hP : P ≤ 1000000) (hn : 1 ≤ n) :
    Calls Tryz.prog 41 #[.pointer (some ⟨r, 0, none⟩), .int .i64 n] w (PickPost n r P w) := by
  have hnx := Rd.next c0 c1 f1 hp (by omega) (.inl rfl)
  go_enter Tryz.func41, Tryz.ntmps41
  go_wp2
  go_ret
  exact ⟨0, rfl, by omega, .inr rfl, hnx, grownBy_set _ _ _ _⟩

theorem pick_in (n : Int) (w : World) (r P : Nat) (b off len cap p : Nat) (c0 : w.cell? ⟨r, 0, none⟩ = some (.slice (some ⟨b, off, none⟩) len cap)) (c1 : w.cell? ⟨r, 1, none⟩ = some (.int .i64 p)) (f1 : w.frozen? ⟨r, 1, none⟩ = false) (hp : p ≤ P) (hP : P ≤ 1000000) (hl : len ≤ 2000) (hbr : b < r)
    (hc : ∀ i, i < len → ∃ u : Nat, u ≤ 255 ∧ w.cell? ⟨b, off + i, none⟩ = some (.int .u8 u)) (hn : 1 ≤ n) (hpl : p < len) :
    Calls Tryz.prog 41 #[.pointer (some ⟨r, 0, none⟩), .int .i64 n] w (PickPost n r P w) := by
  have hnx := Rd.next c0 c1 f1 hp hl (.inr ⟨b, off, rfl, hbr, hc⟩)
  obtain ⟨u, hu, hcu⟩ := hc p hpl
  clear hc
  have hne : b ≠ r := by omega
  have hne' : r ≠ b := by omega
  have hl0 : ((len : Int) == 0) = false := by simp; omega
  go_enter Tryz.func41, Tryz.ntmps41
  go_wp2
  go_ret
  first | exact ⟨_, rfl, (rem_ok (by omega) hn).1, (rem_ok (by omega) hn).2, hnx, grownBy_set _ _ _ _⟩ | exact ⟨_, rfl, (trem_ok (by omega) hn).1, (trem_ok (by omega) hn).2, hnx, grownBy_set _ _ _ _⟩

theorem pick_out (n : Int) (w : World) (r P : Nat) (b off len cap p : Nat) (c0 : w.cell? ⟨r, 0, none⟩ = some (.slice (some ⟨b, off, none⟩) len cap)) (c1 : w.cell? ⟨r, 1, none⟩ = some (.int .i64 p)) (f1 : w.frozen? ⟨r, 1, none⟩ = false) (hp : p ≤ P) (hP : P ≤ 1000000) (hl : len ≤ 2000) (hbr : b < r)
    (hc : ∀ i, i < len → ∃ u : Nat, u ≤ 255 ∧ w.cell? ⟨b, off + i, none⟩ = some (.int .u8 u)) (hn : 1 ≤ n) (h0 : 0 < len) (hpl : ¬ p < len) :
    Calls Tryz.prog 41 #[.pointer (some ⟨r, 0, none⟩), .int .i64 n] w (PickPost n r P w) := by
  have hnx := Rd.next c0 c1 f1 hp hl (.inr ⟨b, off, rfl, hbr, hc⟩)
  obtain ⟨u, hu, hcu⟩ := hc (p % len) (Nat.mod_lt _ h0)
  obtain ⟨v, hv, hcv⟩ := hc ((p * 7 + 3) % len) (Nat.mod_lt _ h0)
  clear hc
  have hne : b ≠ r := by omega
  have hne' : r ≠ b := by omega
  have hl0 : ((len : Int) == 0) = false := by simp; omega
  have hd : decide ((p : Int) < (len : Int)) = false := by simp; omega
  have g1 : 0 ≤ (p : Int) % (len : Int) := Int.emod_nonneg _ (by omega)
  have g2 : (p : Int) % (len : Int) < (len : Int) := Int.emod_lt_of_pos _ (by omega)
  have g3 : 0 ≤ ((p : Int) * 7 + 3) % (len : Int) := Int.emod_nonneg _ (by omega)
  have g4 : ((p : Int) * 7 + 3) % (len : Int) < (len : Int) := Int.emod_lt_of_pos _ (by omega)
  have g5 : 0 ≤ (p : Int) / (len : Int) := Int.ediv_nonneg (by omega) (by omega)
  have g6 : (p : Int) / (len : Int) ≤ (p : Int) := Int.ediv_le_self _ (by omega)
  go_enter Tryz.func41, Tryz.ntmps41
  go_wp2
  go_quiet (fail)
  go_wp2
  go_ret
  have hy := xor_pos (u * 131 + v * 1117 + p * 29 + (p : Int) / len * 53) ((u * 131 + v * 1117 + p * 29 + (p : Int) / len * 53) / 64) ⟨by omega, by omega⟩ ⟨by omega, by omega⟩
  exact ⟨_, rfl, (trem_ok hy hn).1, (trem_ok hy hn).2, hnx.kept fun _ _ => rfl, grownBy_drewN (grownBy_set _ _ _ _) _⟩

theorem pick_any (n : Int) (w : World) (r P : Nat) (h : Rd w r P) (hP : P ≤ 1000000) :
    Calls Tryz.prog 41 #[.pointer (some ⟨r, 0, none⟩), .int .i64 n] w (PickPost n r P w) := by
  by_cases hn : n < 1
  · exact pick_low n w r P h hP hn
  · obtain ⟨a, len, cap, p, c0, c1, f1, hp, hl, hz⟩ := h
    by_cases h0 : len = 0
    · subst h0
      exact pick_none n w r P a cap p c0 c1 f1 hp hP (by omega)
    · rcases hz with hz | ⟨b, off, rfl, hbr, hc⟩
      · exact absurd hz h0
      · by_cases hpl : p < len
        · exact pick_in n w r P b off len cap p c0 c1 f1 hp hP hl hbr hc (by omega) hpl
        · exact pick_out n w r P b off len cap p c0 c1 f1 hp hP hl hbr hc (by omega) (by omega) hpl

def OddPost (r P : Nat) (w : World) (e : Ending) (w' : World) : Prop :=
  ∃ b : Bool, e = .returned (.bool b) ∧ Rd w' r (P + 1) ∧ w.grownBy w' (some r)

theorem odd_any (n : Int) (w : World) (r P : Nat) (h : Rd w r P) (hP : P ≤ 1000000) (hn : 1 ≤ n) (hn2 : n ≤ 1000) :
    Calls Tryz.prog 47 #[.pointer (some ⟨r, 0, none⟩), .int .i64 n] w (OddPost r P w) := by
  go_enter Tryz.func47, Tryz.ntmps47
  go_wp2_with (go_at_call 41; refine (pick_any _ _ _ _ h hP).mono ?_; rintro e w' ⟨k, rfl, hk0, hk1, hrd, hg⟩)
  go_ret
  exact ⟨_, rfl, hrd, hg⟩

end Go.Proofs.YtlnffpofbfigaaaGreatDoor

/-
  Contracts of l20Steps, l20Value, l20Open: what they draw lies in its range, and they write the reader's own block alone. The code is of any length; the reader has been asked at most P times.
-/
namespace Go.Proofs.YtlnffpofbfigaaaGreatDoor
open Go.RowKit

theorem Rd.alloc {w : World} {r P : Nat} (h : Rd w r P) (o : Obj) : Rd (w.alloc o) r P :=
  h.kept fun k hk => Below.heap_alloc w o k (Nat.lt_of_le_of_lt hk h.lt)
theorem Rd.grown {w w' : World} {r P : Nat} (h : Rd w r P) (hg : w.grownBy w' none) : Rd w' r P :=
  h.kept fun k hk => hg.block k (Nat.lt_of_le_of_lt hk h.lt) (by simp)

end Go.Proofs.YtlnffpofbfigaaaGreatDoor
