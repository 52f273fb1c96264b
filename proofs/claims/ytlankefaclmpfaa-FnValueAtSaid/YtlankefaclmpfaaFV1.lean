/-
  The walks of the laws FnFormulaOk and FnLettersIn.
-/
import Derived.Test.YtlankefaclmpfaaFDraw2
import Derived.Test.YtlankefaclmpfaaFSpecB
import Derived.Test.YtlankefaclmpfaaFAt
namespace Go.Proofs.Ytlankefaclmpfaa
open Go.RowKit

theorem form_is (s : ByteArray) {b : Bool} (h : isF (bl s) = b) (w : World) :
    Calls Try.prog 12 #[.string s] w fun e w' => e = .returned (.bool b) ∧ w.grownBy w' none := by rw [← h]; exact form_any s w

theorem FnFormulaOk_walk (a0 : Option Addr) (len0 cap0 : Nat) (z0 : List Int) (w : World) (w0 : IsRow .u8 w a0 len0 cap0 z0) :
    Calls Try.prog 3 #[.slice a0 len0 cap0] w fun e w' => e = .returned (.bool true) ∧ Below w.heap.size w w' := by
  by_cases hl : (1048576 : Int) < (len0 : Int)
  · clear w0
    go_enter Try.func3, Try.ntmps3
    go_wp2_with fail
    go_ret
    exact ⟨rfl, Below.refl _ _⟩
  · have ml : maxLen = 9223372036854775807 := rfl
    have ca := form_is ⟨#[97]⟩ (b := true) rfl
    have ce := form_is ⟨#[]⟩ (b := false) rfl
    go_enter Try.func3, Try.ntmps3
    go_wp2_with fail
    refine (DrawFormulaOk_any _ _ _ _ _ w0).mono ?_
    rintro e w1 ⟨s, rfl, hs, g1⟩
    clear w0
    have hz := bl_size s
    by_cases h60 : 60 ≤ s.size
    · have d60 : decide ((60 : Int) ≤ (s.size : Int)) = true := decide_eq_true (by omega)
      have c1 := fun w => form_is s (b := isF (bl s)) rfl w
      have c2 := sform_any s
      generalize isF (bl s) = b at *
      clear hz
      go_wp2_with fail
      refine (c1 _).mono ?_
      rintro e w2 ⟨rfl, g2⟩
      go_wp2_with fail
      refine (c2 _).mono ?_
      rintro e w3 ⟨rfl, rfl⟩
      clear c1 c2
      go_wp2_with fail
      refine (ca _).mono ?_
      rintro e w3 ⟨rfl, g3⟩
      go_wp2_with fail
      refine (ce _).mono ?_
      rintro e w4 ⟨rfl, g4⟩
      go_wp2_with (go_at_call 14; refine (alive_any _).mono ?_; rintro e w' ⟨rfl, rfl⟩)
      go_ret
      exact ⟨rfl, below_of (grownBy_trans (grownBy_trans (grownBy_trans g1 g2) g3) g4)⟩
    · have d60 : decide ((60 : Int) ≤ (s.size : Int)) = false := decide_eq_false (by omega)
      have c1 := fun w => form_is s (b := isF (bl s)) rfl w
      have c2 := sform_any s
      have c3 := fun w => form_is ((⟨#[33]⟩ : ByteArray) ++ s) (b := isF (bl s)) (by rw [bl_app]; exact isF_neg (l := bl s) (by omega)) w
      generalize isF (bl s) = b at *
      clear hz
      go_wp2_with fail
      refine (c1 _).mono ?_
      rintro e w2 ⟨rfl, g2⟩
      go_wp2_with fail
      refine (c2 _).mono ?_
      rintro e w3 ⟨rfl, rfl⟩
      clear c1 c2
      go_wp2_with fail
      refine (c3 _).mono ?_
      rintro e w3 ⟨rfl, g3⟩
      clear c3
      go_wp2_with fail
      refine (ca _).mono ?_
      rintro e w4 ⟨rfl, g4⟩
      go_wp2_with fail
      refine (ce _).mono ?_
      rintro e w5 ⟨rfl, g5⟩
      go_wp2_with (go_at_call 14; refine (alive_any _).mono ?_; rintro e w' ⟨rfl, rfl⟩)
      go_ret
      exact ⟨rfl, below_of (grownBy_trans (grownBy_trans (grownBy_trans (grownBy_trans g1 g2) g3) g4) g5)⟩

theorem letters_is (s : ByteArray) {n : Int} (h : lsI (bl s) = n) (w : World) :
    Calls Try.prog 23 #[.string s] w fun e w' => e = .returned (.int .i64 n) ∧ w.grownBy w' none := by rw [← h]; exact letters_any s w
theorem sletters_is (s : ByteArray) {n : Int} (h : lsI (bl s) = n) (w : World) :
    Calls Try.prog 24 #[.string s] w fun e w' => e = .returned (.int .i64 n) ∧ w = w' := by rw [← h]; exact sletters_any s w
theorem value_is (s : ByteArray) {n a b c v : Int} (h : valI n (bl s) a b c = v) (w : World) :
    Calls Try.prog 16 #[.int .i64 n, .string s, .int .i64 a, .int .i64 b, .int .i64 c] w fun e w' => e = .returned (.int .i64 v) ∧ w.grownBy w' none := by rw [← h]; exact value_any n s a b c w
theorem svalue_is (s : ByteArray) {n a b c v : Int} (h : valI n (bl s) a b c = v) (w : World) :
    Calls Try.prog 17 #[.int .i64 n, .string s, .int .i64 a, .int .i64 b, .int .i64 c] w fun e w' => e = .returned (.int .i64 v) ∧ w = w' := by rw [← h]; exact svalue_any n s a b c w

theorem both_txt {s : ByteArray} {t : Tr} (h : bl s = t.txt) : bl ((⟨#[40]⟩ : ByteArray) ++ s ++ ⟨#[62]⟩ ++ s ++ ⟨#[41]⟩) = (Tr.bin .fol t t).txt := by
  rw [bl_app, bl_app, bl_app, bl_app, h]
  show [40] ++ t.txt ++ [62] ++ t.txt ++ [41] = 40 :: (t.txt ++ 62 :: (t.txt ++ [41]))
  simp

theorem both_letters {s : ByteArray} {t : Tr} (h : bl s = t.txt) (hl : 2 * t.txt.length + 3 ≤ 60) : lsI (bl ((⟨#[40]⟩ : ByteArray) ++ s ++ ⟨#[62]⟩ ++ s ++ ⟨#[41]⟩)) = 2 * (t.ls : Int) := by
  have e := fOf_txt (t := .bin .fol t t) (by rw [fol_len]; omega)
  rw [both_txt h, lsI_t e]
  show ((t.ls + t.ls : Nat) : Int) = _
  omega

theorem two_letters : lsI (bl ⟨#[40, 97, 62, 33, 97, 41]⟩) = 2 := rfl

set_option maxHeartbeats 1000000 in
theorem FnLettersIn_walk (a0 : Option Addr) (len0 cap0 : Nat) (z0 : List Int) (w : World) (w0 : IsRow .u8 w a0 len0 cap0 z0) :
    Calls Try.prog 6 #[.slice a0 len0 cap0] w fun e w' => e = .returned (.bool true) ∧ Below w.heap.size w w' := by
  by_cases hl : (1048576 : Int) < (len0 : Int)
  · clear w0
    go_enter Try.func6, Try.ntmps6
    go_wp2_with fail
    go_ret
    exact ⟨rfl, Below.refl _ _⟩
  · have ml : maxLen = 9223372036854775807 := rfl
    have cl := letters_is ⟨#[40, 97, 62, 33, 97, 41]⟩ two_letters
    go_enter Try.func6, Try.ntmps6
    go_wp2_with fail
    refine (DrawLettersIn_any _ _ _ _ _ w0).mono ?_
    rintro e w1 ⟨s, rfl, hs, g1⟩
    clear w0
    cases ho : fOf (bl s) with
    | none =>
      have c1 := letters_is s (lsI_f ho)
      have c2 := sletters_is s (lsI_f ho)
      clear ho
      go_wp2_with fail
      refine (c1 _).mono ?_
      rintro e w2 ⟨rfl, g2⟩
      go_wp2_with fail
      refine (c2 _).mono ?_
      rintro e w3 ⟨rfl, rfl⟩
      go_wp2_with (go_at_call 14; refine (alive_any _).mono ?_; rintro e w' ⟨rfl, rfl⟩)
      go_ret
      exact ⟨rfl, below_of (grownBy_trans g1 g2)⟩
    | some t =>
      obtain ⟨ht, htl⟩ := fOf_some ho
      have c1 := letters_is s (lsI_t ho)
      have c2 := sletters_is s (lsI_t ho)
      have hle := ls_le t
      have hsz : s.size = t.txt.length := by rw [bl_size, ht]
      by_cases hb : 2 * t.txt.length + 3 ≤ 60
      · have c3 := letters_is _ (both_letters ht hb)
        have hd : decide ((60 : Int) < 1 + (s.size : Int) + 1 + (s.size : Int) + 1) = false := decide_eq_false (by omega)
        by_cases h0 : t.ls = 0
        · have c4 := value_is s (n := 4) (a := 1) (b := 2) (c := 3) (valI_t ho rfl)
          have c5 := value_is s (n := 4) (a := 4) (b := 0) (c := 2) ((valI_t ho rfl).trans (val_none 4 4 0 2 1 2 3 t h0))
          rw [h0] at c1 c2 c3
          generalize t.val 4 1 2 3 = v at *
          clear ho ht htl hle h0 hb hsz
          go_wp2_with fail
          refine (c1 _).mono ?_
          rintro e w2 ⟨rfl, g2⟩
          go_wp2_with fail
          refine (c2 _).mono ?_
          rintro e w3 ⟨rfl, rfl⟩
          clear c1 c2
          go_wp2_with fail
          refine (c3 _).mono ?_
          rintro e w3 ⟨rfl, g3⟩
          clear c3
          go_wp2_with fail
          refine (c4 _).mono ?_
          rintro e w4 ⟨rfl, g4⟩
          go_wp2_with fail
          refine (c5 _).mono ?_
          rintro e w5 ⟨rfl, g5⟩
          clear c4 c5
          go_wp2_with fail
          refine (cl _).mono ?_
          rintro e w6 ⟨rfl, g6⟩
          go_wp2_with fail
          go_ret
          exact ⟨rfl, below_of (grownBy_trans (grownBy_trans (grownBy_trans (grownBy_trans (grownBy_trans g1 g2) g3) g4) g5) g6)⟩
        · have h1 : 1 ≤ t.ls := by omega
          have h2 : t.ls ≤ 60 := by omega
          have d0 : decide (0 < t.ls) = true := decide_eq_true (by omega)
          have d1 : decide ((0 : Int) < (t.ls : Int)) = true := decide_eq_true (by omega)
          generalize t.ls = q at *
          clear ho ht htl hle h0 hb hsz
          go_wp2_with fail
          refine (c1 _).mono ?_
          rintro e w2 ⟨rfl, g2⟩
          go_wp2_with fail
          refine (c2 _).mono ?_
          rintro e w3 ⟨rfl, rfl⟩
          clear c1 c2
          go_wp2_with fail
          refine (c3 _).mono ?_
          rintro e w3 ⟨rfl, g3⟩
          clear c3
          go_wp2_with fail
          refine (cl _).mono ?_
          rintro e w6 ⟨rfl, g6⟩
          go_wp2_with fail
          go_ret
          exact ⟨rfl, below_of (grownBy_trans (grownBy_trans (grownBy_trans g1 g2) g3) g6)⟩
      · have hd : decide ((60 : Int) < 1 + (s.size : Int) + 1 + (s.size : Int) + 1) = true := decide_eq_true (by omega)
        by_cases h0 : t.ls = 0
        · have c4 := value_is s (n := 4) (a := 1) (b := 2) (c := 3) (valI_t ho rfl)
          have c5 := value_is s (n := 4) (a := 4) (b := 0) (c := 2) ((valI_t ho rfl).trans (val_none 4 4 0 2 1 2 3 t h0))
          rw [h0] at c1 c2
          generalize t.val 4 1 2 3 = v at *
          clear ho ht htl hle h0 hb hsz
          go_wp2_with fail
          refine (c1 _).mono ?_
          rintro e w2 ⟨rfl, g2⟩
          go_wp2_with fail
          refine (c2 _).mono ?_
          rintro e w3 ⟨rfl, rfl⟩
          clear c1 c2
          go_wp2_with fail
          refine (c4 _).mono ?_
          rintro e w4 ⟨rfl, g4⟩
          go_wp2_with fail
          refine (c5 _).mono ?_
          rintro e w5 ⟨rfl, g5⟩
          clear c4 c5
          go_wp2_with fail
          refine (cl _).mono ?_
          rintro e w6 ⟨rfl, g6⟩
          go_wp2_with fail
          go_ret
          exact ⟨rfl, below_of (grownBy_trans (grownBy_trans (grownBy_trans (grownBy_trans g1 g2) g4) g5) g6)⟩
        · have h1 : 1 ≤ t.ls := by omega
          have h2 : t.ls ≤ 60 := by omega
          have d0 : decide (0 < t.ls) = true := decide_eq_true (by omega)
          have d1 : decide ((0 : Int) < (t.ls : Int)) = true := decide_eq_true (by omega)
          generalize t.ls = q at *
          clear ho ht htl hle h0 hb hsz
          go_wp2_with fail
          refine (c1 _).mono ?_
          rintro e w2 ⟨rfl, g2⟩
          go_wp2_with fail
          refine (c2 _).mono ?_
          rintro e w3 ⟨rfl, rfl⟩
          clear c1 c2
          go_wp2_with fail
          refine (cl _).mono ?_
          rintro e w6 ⟨rfl, g6⟩
          go_wp2_with fail
          go_ret
          exact ⟨rfl, below_of (grownBy_trans (grownBy_trans g1 g2) g6)⟩

end Go.Proofs.Ytlankefaclmpfaa
