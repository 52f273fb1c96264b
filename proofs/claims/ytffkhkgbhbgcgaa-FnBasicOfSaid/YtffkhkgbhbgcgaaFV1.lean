/-
  The walks of the laws FnFormulaOk and FnLettersIn.
-/
import Derived.Test.YtffkhkgbhbgcgaaFDraw2
import Derived.Test.YtffkhkgbhbgcgaaFSpecB
import Derived.Test.YtffkhkgbhbgcgaaFAt
namespace Go.Proofs.Ytffkhkgbhbgcgaa
open Go.RowKit

theorem form_is (s : ByteArray) {b : Bool} (h : isF (bl s) = b) (w : World) :
    Calls Try.prog 20 #[.string s] w fun e w' => e = .returned (.bool b) ∧ w.grownBy w' none := by rw [← h]; exact form_any s w

theorem value_is (s : ByteArray) {n a b c v : Int} (h : valI n (bl s) a b c = v) (w : World) :
    Calls Try.prog 21 #[.int .i64 n, .string s, .int .i64 a, .int .i64 b, .int .i64 c] w fun e w' => e = .returned (.int .i64 v) ∧ w.grownBy w' none := by rw [← h]; exact value_any n s a b c w

theorem both_txt {s : ByteArray} {t : Tr} (h : bl s = t.txt) : bl ((⟨#[40]⟩ : ByteArray) ++ s ++ ⟨#[62]⟩ ++ s ++ ⟨#[41]⟩) = (Tr.bin .fol t t).txt := by
  rw [bl_app, bl_app, bl_app, bl_app, h]
  show [40] ++ t.txt ++ [62] ++ t.txt ++ [41] = 40 :: (t.txt ++ 62 :: (t.txt ++ [41]))
  simp

theorem both_letters {s : ByteArray} {t : Tr} (h : bl s = t.txt) (hl : 2 * t.txt.length + 3 ≤ 60) : lsI (bl ((⟨#[40]⟩ : ByteArray) ++ s ++ ⟨#[62]⟩ ++ s ++ ⟨#[41]⟩)) = 2 * (t.ls : Int) := by
  have e := fOf_txt (t := .bin .fol t t) (by rw [fol_len]; omega)
  rw [both_txt h, lsI_t e]
  show ((t.ls + t.ls : Nat) : Int) = _
  omega

theorem two_letters : lsI (bl ⟨#[40, 97, 62, 33, 97, 41]⟩) = 2 := rfl

end Go.Proofs.Ytffkhkgbhbgcgaa
