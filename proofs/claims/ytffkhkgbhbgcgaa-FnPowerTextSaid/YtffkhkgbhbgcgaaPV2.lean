/-
  The walk of the law FnPowerText.
-/
import Derived.Test.YtffkhkgbhbgcgaaPDraw2
import Derived.Test.YtffkhkgbhbgcgaaSPow
import Derived.Test.YtffkhkgbhbgcgaaFAt
namespace Go.Proofs.Ytffkhkgbhbgcgaa
open Go.RowKit

/-- The value of a power, for values of the letters. -/
theorem pow_val {n a b c j : Nat} (hn : 1 ≤ n ∧ n ≤ 6) (ha : a ≤ n) (hb : b ≤ n) (hc : c ≤ n) (t : Tr) : (powN t j).val n a b c = manyN n (t.val n a b c) (j + 1) := by
  rw [← atK_idx (powN t j) ha hb hc, ← atK_idx t ha hb hc, powN_val hn]
theorem six_ok {k : Nat} (hk : k ≤ 6) : thrB (6 : Int) k ((6 : Int) - k) 3 = true := thrB_mk (vokB_t (by omega)) (vokB_t (by omega)) (vokB_t (by omega))
theorem six_val {p : Tr} (hp : p.txt.length ≤ 60) {k : Nat} (hk : k ≤ 6) : valI 6 (bl (tb p)) k ((6 : Int) - k) 3 = p.val (6 : Nat) k ((6 - k : Nat) : Int) (3 : Nat) := by
  rw [valI_t (show fOf (bl (tb p)) = some p from fOf_txt hp) (six_ok hk), show (6 : Int) - k = ((6 - k : Nat) : Int) by omega]
  rfl

def PvRel (w : World) (i : Value) (wr : World) : Prop := ∃ k : Nat, k ≤ 7 ∧ i = .int .i64 k ∧ w.grownBy wr none

set_option maxHeartbeats 2000000 in
theorem FnPowerText_walk (a0 : Option Addr) (len0 cap0 : Nat) (z0 : List Int) (w : World) (w0 : IsRow .u8 w a0 len0 cap0 z0) :
    Calls Try.prog 7 #[.slice a0 len0 cap0] w fun e w' => e = .returned (.bool true) ∧ Below w.heap.size w w' := by
  by_cases hl : (1048576 : Int) < (len0 : Int)
  · clear w0
    go_enter Try.func7, Try.ntmps7
    go_wp2_with fail
    go_ret
    exact ⟨rfl, Below.refl _ _⟩
  · go_enter Try.func7, Try.ntmps7
    go_wp2_with fail
    refine (DrawPowerText_any _ _ _ _ _ w0).mono ?_
    rintro e w1 ⟨s, q, rfl, hs, q0, q1, g1⟩
    clear w0
    cases hp : powI (bl s) q with
    | none =>
      have c1 := pow_none s q hp
      have c2 : ∀ w, Calls Try.prog 35 #[.string s, .int .i64 q] w fun e w' => e = .returned (.tuple #[.string ⟨#[]⟩, .bool false]) ∧ w = w' := fun w => by
        have := spow_any s q w
        rw [hp] at this
        exact this
      clear hp
      go_wp2_with fail
      refine (c1 _).mono ?_
      rintro e w2 ⟨rfl, g2⟩
      clear c1
      go_wp2_with fail
      refine (c2 _).mono ?_
      rintro e w3 ⟨rfl, rfl⟩
      clear c2
      go_wp2_with (go_at_call 18; refine (alive_any _).mono ?_; rintro e w' ⟨rfl, rfl⟩)
      go_ret
      exact ⟨rfl, below_of (grownBy_trans g1 g2)⟩
    | some p =>
      have c1 := pow_some s q hp
      have c2 : ∀ w, Calls Try.prog 35 #[.string s, .int .i64 q] w fun e w' => e = .returned (.tuple #[.string (tb p), .bool true]) ∧ w = w' := fun w => by
        have := spow_any s q w
        rw [hp] at this
        exact this
      obtain ⟨j, t, hq, hj, ho, rfl, hpl⟩ := powI_of hp
      have et := tb_of ho
      have htl := (fOf_some ho).2
      have cx : ∀ k : Nat, k ≤ 6 → ∃ v y : Int, (∀ w : World, Calls Try.prog 21 #[.int .i64 6, .string (tb (powN t j)), .int .i64 k, .int .i64 ((6 : Int) - k), .int .i64 3] w fun e w' => e = .returned (.int .i64 v) ∧ w.grownBy w' none) ∧
          (∀ w : World, Calls Try.prog 21 #[.int .i64 6, .string s, .int .i64 k, .int .i64 ((6 : Int) - k), .int .i64 3] w fun e w' => e = .returned (.int .i64 y) ∧ w.grownBy w' none) ∧
          (∀ w : World, Calls Try.prog 36 #[.int .i64 6, .int .i64 y, .int .i64 q] w fun e w' => e = .returned (.int .i64 v) ∧ w.grownBy w' none) := fun k hk => by
        have hy : vokB (6 : Int) (t.val (6 : Nat) k ((6 - k : Nat) : Int) (3 : Nat)) = true := by
          rw [← six_val htl hk, valI_t (show fOf (bl (tb t)) = some t from fOf_txt htl) (six_ok hk)]
          exact val_ok (six_ok hk) t
        refine ⟨(powN t j).val (6 : Nat) k ((6 - k : Nat) : Int) (3 : Nat), t.val (6 : Nat) k ((6 - k : Nat) : Int) (3 : Nat), fun w => ?_, fun w => ?_, fun w => ?_⟩
        · rw [← six_val hpl hk]; exact value_any _ _ _ _ _ w
        · rw [← six_val htl hk, et]; exact value_any _ _ _ _ _ w
        · have e : manyW 6 (t.val (6 : Nat) k ((6 - k : Nat) : Int) (3 : Nat)) q = (powN t j).val (6 : Nat) k ((6 - k : Nat) : Int) (3 : Nat) := by
            rw [manyW_t hy (by rw [hq]; exact inB_t (by omega)), pow_val (by omega) hk (Nat.sub_le 6 k) (by omega), hq, show ((j : Int) + 1).toNat = j + 1 by omega]
            rfl
          rw [← e]
          exact many_any _ _ _ w
      have cf := frm_yes (tb (powN t j)) (fOf_txt hpl)
      have CX := Lib.hid cx
      have Hq := Lib.hid hq
      clear hp ho et htl cx hq hpl
      generalize tb (powN t j) = X at *
      have hXX : (X.toList != X.toList) = false := by simp
      go_wp2_with fail
      refine (c1 _).mono ?_
      rintro e w2 ⟨rfl, g2⟩
      clear c1
      go_wp2_with fail
      refine (c2 _).mono ?_
      rintro e w3 ⟨rfl, rfl⟩
      clear c2
      go_wp2_with fail
      go_loopw [9] (fun i wr => PvRel w i wr) (fun i _ => 7 - (intOf i).toNat)
      case atStart => exact ⟨0, by omega, rfl, grownBy_trans g1 g2⟩
      case round =>
        obtain ⟨k, hk, rfl, hgr⟩ := hrel
        by_cases hlt : k ≤ 6
        · obtain ⟨v, y, b1, b2, b3⟩ := CX.out k hlt
          have hvv : (v != v) = false := by simp
          go_wp2_with (first
            | (go_at_call 36; refine (b3 _).mono ?_; rintro e w6 ⟨rfl, g6⟩)
            | ((with_reducible refine (b1 _).mono ?_); clear b1; rintro e w4 ⟨rfl, g4⟩)
            | ((with_reducible refine (b2 _).mono ?_); clear b2; rintro e w5 ⟨rfl, g5⟩))
          go_roundw
          case rel => exact ⟨k + 1, by omega, by go_num, grownBy_trans hgr (grownBy_trans g4 (grownBy_trans g5 g6))⟩
          case measure => simp [intOf]; omega
        · obtain rfl : k = 7 := by omega
          go_wp2_with (go_at_call 20; refine (cf _).mono ?_; rintro e w7 ⟨rfl, g7⟩)
          go_ret
          exact ⟨rfl, below_of (grownBy_trans hgr g7)⟩

end Go.Proofs.Ytffkhkgbhbgcgaa
